package clock_test

import (
	"math"
	"math/rand"
	"testing"

	"hourglass/api"
	"hourglass/clock"
)

// The limits are written out, so that a test tells when they are taken wrongly.
const (
	most      = 1 << 50
	mostNodes = 64
	mostSkew  = 1000
)

// numbers are ordinary ones, the edges with their neighbours, and numbers out of range.
func numbers() []int {
	return []int{
		math.MinInt, math.MinInt + 1, -most - 1, -most, -mostSkew - 1, -mostSkew, -mostSkew + 1, -65, -64, -7, -5, -4, -2, -1,
		0, 1, 2, 3, 4, 5, 6, 7, 63, 64, 65, 100, mostSkew - 1, mostSkew, mostSkew + 1,
		most - mostSkew, most - 1, most, most + 1, math.MaxInt - 1, math.MaxInt,
	}
}

// others are the numbers that name none of so many nodes.
func others(nodes int) []int {
	return []int{math.MinInt, -most, -65, -2, -1, nodes, nodes + 1, 65, 1000, most, math.MaxInt}
}

func made(t *testing.T, nodes, skew int) *clock.Clocks {
	t.Helper()
	c, e := clock.New(nodes, skew)
	if e != api.OK || c == nil {
		t.Fatalf("New(%d, %d) = %v, %v", nodes, skew, c, e)
	}
	return c
}

func shift(t *testing.T, c *clock.Clocks, node, by int) {
	t.Helper()
	if e := c.Shift(node, by); e != api.OK {
		t.Fatalf("Shift(%d, %d) = %v", node, by, e)
	}
}

func expectRead(t *testing.T, c *clock.Clocks, node, want int) {
	t.Helper()
	// Asked twice, as to be asked alone lets no clock go on.
	for range 2 {
		if got := c.Read(node); got != want {
			t.Fatalf("Read(%d) = %d, not %d", node, got, want)
		}
	}
}

func expectReal(t *testing.T, c *clock.Clocks, want int) {
	t.Helper()
	for range 2 {
		if got := c.Real(); got != want {
			t.Fatalf("Real() = %d, not %d", got, want)
		}
	}
}

// model keeps all that each clock ever said, and asks all of it.
type model struct {
	real, skew int
	apart      []int
	said       [][]int
}

func modelled(nodes, skew int) *model {
	m := &model{skew: skew}
	for range nodes {
		m.apart = append(m.apart, 0)
		m.said = append(m.said, nil)
	}
	return m
}

func (m *model) tick(n int) {
	switch {
	case n <= 0:
	case n >= most-m.real:
		m.real = most
	default:
		m.real += n
	}
}

func (m *model) none(node int) bool { return node < 0 || node >= len(m.apart) }

func (m *model) shift(node, by int) api.Errno {
	switch {
	case m.none(node):
		return api.ErrNone
	case by > m.skew:
		by = m.skew
	case by < -m.skew:
		by = -m.skew
	}
	m.apart[node] = by
	return api.OK
}

func (m *model) read(node int) int {
	if m.none(node) {
		return 0
	}
	now := m.real + m.apart[node]
	if now < 0 {
		now = 0
	}
	if now > most {
		now = most
	}
	for _, before := range m.said[node] {
		if before > now {
			now = before
		}
	}
	m.said[node] = append(m.said[node], now)
	return now
}

// 12.1: there are from 1 to 64 nodes, and a skew from 0 to 1000; of others there are no clocks.
func TestNew(t *testing.T) {
	for _, nodes := range numbers() {
		for _, skew := range numbers() {
			c, e := clock.New(nodes, skew)
			if nodes < 1 || nodes > mostNodes || skew < 0 || skew > mostSkew {
				if c != nil || e != api.ErrArg {
					t.Fatalf("New(%d, %d) = %v, %v", nodes, skew, c, e)
				}
				continue
			}
			if c == nil || e != api.OK || c.Skew() != skew || c.Real() != 0 {
				t.Fatalf("New(%d, %d) = %v, %v", nodes, skew, c, e)
			}
		}
	}
}

// At first all is 0, and each clock is right.
func TestAtFirst(t *testing.T) {
	for nodes := 1; nodes <= mostNodes; nodes++ {
		c := made(t, nodes, 10)
		for _, at := range []int{0, 100} {
			for node := range nodes {
				expectRead(t, c, node, at)
			}
			expectReal(t, c, at)
			c.Tick(100)
		}
	}
}

// 12.1: Skew is what it was made with, whatever is done.
func TestSkew(t *testing.T) {
	for skew := range mostSkew + 1 {
		c := made(t, 2, skew)
		c.Tick(skew + 5)
		shift(t, c, 1, math.MaxInt)
		c.Read(1)
		if c.Skew() != skew {
			t.Fatalf("Skew() = %d, not %d", c.Skew(), skew)
		}
	}
}

// 12.1: real time goes on as ticks.Add does: by nothing below 0, and no further than to the greatest time.
func TestTick(t *testing.T) {
	for _, first := range numbers() {
		for _, second := range numbers() {
			c, m := made(t, 1, 0), modelled(1, 0)
			for _, n := range []int{first, second, first} {
				c.Tick(n)
				m.tick(n)
				expectReal(t, c, m.real)
			}
		}
	}
	for _, l := range [][3]int{
		{5, 7, 12}, {5, -7, 5}, {-7, 5, 5}, {0, 0, 0}, {5, math.MinInt, 5}, {most - 1, 1, most}, {most - 1, 2, most},
		{most, 1, most}, {most, most, most}, {most, -1, most}, {most - 3, 2, most - 1}, {7, math.MaxInt, most},
		{math.MaxInt, math.MaxInt, most},
	} {
		c := made(t, 3, 9)
		c.Tick(l[0])
		c.Tick(l[1])
		expectReal(t, c, l[2])
	}
}

// 12.1: a clock is apart by what Shift says, but no further than the skew, on either side.
func TestShift(t *testing.T) {
	for _, skew := range []int{0, 1, 2, 5, 63, 999, mostSkew} {
		for _, by := range numbers() {
			c := made(t, 2, skew)
			c.Tick(5000)
			shift(t, c, 1, by)
			expectRead(t, c, 1, 5000+max(-skew, min(by, skew)))
			expectRead(t, c, 0, 5000)
			expectReal(t, c, 5000)
		}
	}
}

// 12.1: a clock is apart by what was told last, not by that and what was told before.
func TestShiftAnew(t *testing.T) {
	const skew = 4
	for first := -6; first <= 6; first++ {
		for second := -6; second <= 6; second++ {
			c := made(t, 1, skew)
			c.Tick(100)
			shift(t, c, 0, first)
			// Nobody read it in between, so that it may be behind what it would have said.
			shift(t, c, 0, second)
			expectRead(t, c, 0, 100+max(-skew, min(second, skew)))
		}
	}
}

// 12.1: of a node that is not there Shift is ErrNone, Read is 0, and neither changes the others.
func TestNoSuchNode(t *testing.T) {
	for _, nodes := range []int{1, 2, 3, 63, mostNodes} {
		c := made(t, nodes, 10)
		c.Tick(50)
		for _, node := range others(nodes) {
			for _, by := range numbers() {
				if e := c.Shift(node, by); e != api.ErrNone {
					t.Fatalf("of %d nodes Shift(%d, %d) = %v", nodes, node, by, e)
				}
			}
			expectRead(t, c, node, 0)
		}
		for node := range nodes {
			expectRead(t, c, node, 50)
			shift(t, c, node, 1)
			expectRead(t, c, node, 51)
		}
	}
}

// 12.1: each node's clock is its own.
func TestEachNode(t *testing.T) {
	c := made(t, mostNodes, mostSkew)
	c.Tick(2000)
	for node := range mostNodes {
		shift(t, c, node, node*30-mostSkew)
	}
	for node := mostNodes - 1; node >= 0; node-- {
		expectRead(t, c, node, 1000+node*30)
	}
	for node := range mostNodes {
		shift(t, c, node, -mostSkew)
	}
	c.Tick(100)
	for node := range mostNodes {
		expectRead(t, c, node, max(1100, 1000+node*30))
	}
}

// 12.1 and 12.2: a clock that is put back says what it said last, till real time is there.
func TestNeverBack(t *testing.T) {
	c := made(t, 2, 10)
	c.Tick(100)
	shift(t, c, 0, 10)
	expectRead(t, c, 0, 110)
	shift(t, c, 0, -10)
	for n := range 20 {
		expectRead(t, c, 0, 110)
		expectRead(t, c, 1, 100+n)
		c.Tick(1)
	}
	for n := range 20 {
		expectRead(t, c, 0, 110+n)
		c.Tick(1)
	}
	shift(t, c, 0, 0)
	expectRead(t, c, 0, 140)
}

// 12.1: what a clock would have said, had anybody asked, does not bind it.
func TestNotRead(t *testing.T) {
	c := made(t, 1, 10)
	c.Tick(100)
	shift(t, c, 0, 10)
	c.Tick(3)
	shift(t, c, 0, -10)
	expectRead(t, c, 0, 93)
	shift(t, c, 0, 10)
	shift(t, c, 0, 2)
	expectRead(t, c, 0, 105)
}

// 12.1: ahead of its beginning no clock says less than 0.
func TestLeast(t *testing.T) {
	for _, skew := range []int{1, 5, mostSkew} {
		c, later := made(t, 1, skew), made(t, 1, skew)
		shift(t, c, 0, -skew)
		shift(t, later, 0, -skew)
		for real := range 2*skew + 1 {
			expectRead(t, c, 0, max(0, real-skew))
			c.Tick(1)
			later.Tick(1)
		}
		expectRead(t, later, 0, skew+1)
	}
}

// 12.1: at the end no clock says more than the greatest time.
func TestGreatest(t *testing.T) {
	for _, skew := range []int{1, 5, mostSkew} {
		c := made(t, 3, skew)
		shift(t, c, 0, skew)
		shift(t, c, 1, -skew)
		c.Tick(most - 2*skew)
		for left := 2 * skew; left >= 0; left-- {
			expectRead(t, c, 0, min(most, most-left+skew))
			expectRead(t, c, 1, most-left-skew)
			expectRead(t, c, 2, most-left)
			c.Tick(1)
		}
		expectReal(t, c, most)
		c.Tick(math.MaxInt)
		expectReal(t, c, most)
		expectRead(t, c, 0, most)
		expectRead(t, c, 1, most-skew)
		shift(t, c, 1, 1)
		expectRead(t, c, 1, most)
		shift(t, c, 1, -1)
		expectRead(t, c, 1, most)
	}
}

// Nil ones say nothing, and stay so.
func TestNil(t *testing.T) {
	var c *clock.Clocks
	for _, n := range numbers() {
		c.Tick(n)
		if e := c.Shift(n, 1); e != api.ErrNone {
			t.Errorf("Shift(%d, 1) = %v", n, e)
		}
		if e := c.Shift(0, n); e != api.ErrNone {
			t.Errorf("Shift(0, %d) = %v", n, e)
		}
		if c.Read(n) != 0 || c.Real() != 0 || c.Skew() != 0 {
			t.Errorf("nil ones say %d, %d, %d", c.Read(n), c.Real(), c.Skew())
		}
	}
}

// The chapter's example.
func TestExample(t *testing.T) {
	c := made(t, 1, 5)
	c.Tick(100)
	shift(t, c, 0, 99)
	expectRead(t, c, 0, 105)
}

// Two have nothing in common.
func TestTwo(t *testing.T) {
	a, b := made(t, 2, 10), made(t, 2, 10)
	a.Tick(100)
	shift(t, a, 1, 10)
	expectRead(t, a, 1, 110)
	expectReal(t, b, 0)
	expectRead(t, b, 1, 0)
	b.Tick(20)
	expectRead(t, b, 1, 20)
	expectReal(t, a, 100)
}

// 12.2: whatever six steps are done, a clock is no further from real time than the skew, and neither goes back.
func TestNeverFurther(t *testing.T) {
	const skew, kinds, length = 2, 9, 6
	scripts := 1
	for range length {
		scripts *= kinds
	}
	for _, begin := range []int{0, 50, most - 3} {
		for script := range scripts {
			c := made(t, 1, skew)
			c.Tick(begin)
			real, said := c.Real(), 0
			for rest := script; rest > 0; rest /= kinds {
				switch kind := rest % kinds; kind {
				case 0:
					said = near(t, c, skew, said)
				case 1, 2:
					c.Tick(kind*2 - 1)
				case 3:
					c.Tick(-4)
				default:
					shift(t, c, 0, kind-6)
				}
				if c.Real() < real {
					t.Fatalf("real time goes back from %d to %d", real, c.Real())
				}
				real = c.Real()
			}
			near(t, c, skew, said)
		}
	}
}

// near asks that a clock is near real time, and not behind what it said, and tells what it says.
func near(t *testing.T, c *clock.Clocks, skew, said int) int {
	t.Helper()
	now, real := c.Read(0), c.Real()
	if now < said || now < real-skew || now > real+skew || now < 0 || now > most {
		t.Fatalf("a clock says %d, behind %d, at %d", now, said, real)
	}
	return now
}

// 12.1 and 12.2: whatever is done, in whichever order, is as the model says.
func TestAsTheModel(t *testing.T) {
	for seed := range int64(400) {
		r := rand.New(rand.NewSource(seed))
		nodes, skew := 1+r.Intn(mostNodes), r.Intn(mostSkew+1)
		if r.Intn(2) == 0 {
			nodes, skew = 1+r.Intn(3), r.Intn(20)
		}
		c, m := made(t, nodes, skew), modelled(nodes, skew)
		if r.Intn(4) == 0 {
			c.Tick(most - 3*skew)
			m.tick(most - 3*skew)
		}
		for range 300 {
			node := r.Intn(nodes+2) - 1
			switch r.Intn(4) {
			case 0:
				n := r.Intn(skew+2) - 1
				c.Tick(n)
				m.tick(n)
			case 1:
				by := r.Intn(4*skew+3) - 2*skew - 1
				if r.Intn(8) == 0 {
					by = r.Int() - r.Int()
				}
				if got, want := c.Shift(node, by), m.shift(node, by); got != want {
					t.Fatalf("seed %d: Shift(%d, %d) = %v, not %v", seed, node, by, got, want)
				}
			default:
				if got, want := c.Read(node), m.read(node); got != want {
					t.Fatalf("seed %d: Read(%d) = %d, not %d", seed, node, got, want)
				}
			}
			if c.Real() != m.real || c.Skew() != skew {
				t.Fatalf("seed %d: Real() = %d, not %d; Skew() = %d", seed, c.Real(), m.real, c.Skew())
			}
		}
	}
}
