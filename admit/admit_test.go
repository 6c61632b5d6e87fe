package admit_test

import (
	"math"
	"math/rand"
	"slices"
	"testing"

	"hourglass/admit"
	"hourglass/api"
	"hourglass/budget"
	"hourglass/lease"
)

// What is done, the codes and the greatest time are written out, so that a test tells when they are taken wrongly.
const (
	start  = 0
	refuse = 1
	later  = 2
	ignore = 3

	cancelled     = 1
	deadline      = 4
	exhausted     = 8
	unimplemented = 12

	tick = 1 << 50
)

// config is one that may be, with other numbers for all that Check asks for.
func config() api.Config {
	return api.Config{
		Nodes: 2, Skew: 1, Lease: 10, Grain: 0, Least: 3, Hops: 2, Cap: 5, Fan: 2, Attempts: 2, Base: 4, Most: 8, Wait: 9, Tokens: 6,
		Programs: make([][]api.Op, 2),
	}
}

// packet is a Call that config's node begins in room: its deadline is 120, its lease goes up to 150.
func packet() api.Packet {
	return api.Packet{
		Kind: api.Call, From: 1, To: 0, Key: api.Key{Id: api.Id{Node: 1, Seq: 7}, Att: 1}, Hop: 2, Stamp: 100, Timeout: "20u", Until: 150, Program: 1,
		Root: api.Id{Node: 1, Seq: 6}, Parent: api.Key{Id: api.Id{Node: 1, Seq: 6}},
	}
}

func room() admit.Room {
	return admit.Room{Now: 105, Running: 1, Programs: 2}
}

// field is a setting, with the least and the greatest number that it may be.
type field struct {
	name        string
	at          func(c *api.Config) *int
	least, most int
}

func fields() []field {
	return []field{
		{"nodes", func(c *api.Config) *int { return &c.Nodes }, 1, 64},
		{"skew", func(c *api.Config) *int { return &c.Skew }, 0, 1000},
		{"lease", func(c *api.Config) *int { return &c.Lease }, 1, 1000000},
		{"grain", func(c *api.Config) *int { return &c.Grain }, 0, 6},
		{"least", func(c *api.Config) *int { return &c.Least }, 1, 1000000},
		{"hops", func(c *api.Config) *int { return &c.Hops }, 1, 16},
		{"cap", func(c *api.Config) *int { return &c.Cap }, 1, 64},
		{"fan", func(c *api.Config) *int { return &c.Fan }, 1, 8},
		{"attempts", func(c *api.Config) *int { return &c.Attempts }, 1, 5},
		{"base", func(c *api.Config) *int { return &c.Base }, 1, 1000000},
		{"most", func(c *api.Config) *int { return &c.Most }, 1, 1000000},
		{"wait", func(c *api.Config) *int { return &c.Wait }, 1, 1000000},
		{"tokens", func(c *api.Config) *int { return &c.Tokens }, 1, 1000},
	}
}

// wide is config, with Base and Most so far apart that each may be whatever its own range says.
func wide() api.Config {
	c := config()
	c.Base, c.Most = 1, 1000000
	return c
}

func expectRight(t *testing.T, what string, c api.Config, want bool) {
	t.Helper()
	if got := admit.Right(c); got != want {
		t.Errorf("%s: Right(%+v) = %t", what, c, got)
	}
}

// time is the nearest one that may be.
func time(n int) int {
	switch {
	case n < 0:
		return 0
	case n > tick:
		return tick
	}
	return n
}

// span is a timeout, and its ticks; -1, if it is none.
type span struct {
	s string
	n int
}

func spans() []span {
	return []span{
		{"0u", 0}, {"1u", 1}, {"2u", 2}, {"20u", 20}, {"00000003u", 3}, {"999n", 0}, {"1000n", 1}, {"1m", 1000}, {"99999999u", 99999999},
		{"1S", 1000000}, {"18764998M", 18764998 * 60000000}, {"99999999M", tick}, {"99999999H", tick},
		{"", -1}, {"5", -1}, {"u", -1}, {"5x", -1}, {"-5u", -1}, {"5 u", -1}, {"123456789u", -1}, {"\xff\x00", -1},
	}
}

// due is the deadline of a stamp and a timeout.
func due(stamp int, s span) int {
	if s.n < 0 {
		return 0
	}
	return min(time(stamp)+s.n, tick)
}

// numbers are ordinary ones, the edges with their neighbours, and numbers out of range.
func numbers() []int {
	return []int{
		math.MinInt, math.MinInt + 1, -tick, -20, -2, -1, 0, 1, 2, 3, 5, 19, 20, 21, 100, 1000000,
		tick - 21, tick - 20, tick - 3, tick - 1, tick, tick + 1, math.MaxInt - 1, math.MaxInt,
	}
}

// check is what is done by the rule, as the chapter says it one by one.
func check(c api.Config, p api.Packet, s span, r admit.Room) (int, int) {
	left := max(0, due(p.Stamp, s)-time(r.Now))
	if r.Seen {
		return ignore, 0
	}
	if p.Hop > c.Hops {
		return refuse, exhausted
	}
	if p.Program < 0 || r.Programs <= p.Program {
		return refuse, unimplemented
	}
	if left == 0 || left < time(c.Least) {
		return refuse, deadline
	}
	if time(r.Now) >= time(p.Until) {
		return refuse, cancelled
	}
	if r.Running >= c.Cap {
		return later, c.Base
	}
	return start, 0
}

func expectCheck(t *testing.T, c api.Config, p api.Packet, r admit.Room, what, number int) {
	t.Helper()
	if a, b := admit.Check(c, p, r); a != what || b != number {
		t.Fatalf("Check(%+v, %+v, %+v) = %d, %d, not %d, %d", c, p, r, a, b, what, number)
	}
}

// 17.1: what is done has these numbers.
func TestNumbers(t *testing.T) {
	if admit.Start != start || admit.Refuse != refuse || admit.Later != later || admit.Ignore != ignore {
		t.Error(admit.Start, admit.Refuse, admit.Later, admit.Ignore)
	}
}

// 17.1: each setting may be what is in its range, its ends too, and nothing else.
func TestRight(t *testing.T) {
	expectRight(t, "ordinary", config(), true)
	expectRight(t, "zero", api.Config{}, false)
	for _, f := range fields() {
		for _, n := range []int{f.least, f.least + 1, (f.least + f.most) / 2, f.most - 1, f.most} {
			c := wide()
			*f.at(&c) = n
			expectRight(t, f.name, c, true)
		}
		for _, n := range []int{math.MinInt, math.MinInt + 1, -f.most, f.least - 2, f.least - 1, f.most + 1, f.most + 2, 2 * f.most, tick, math.MaxInt} {
			c := wide()
			*f.at(&c) = n
			expectRight(t, f.name, c, false)
		}
	}
}

// 17.1: of small ranges each number, and those that are near.
func TestRightOfSmallNumbers(t *testing.T) {
	for _, f := range fields() {
		for n := -20; n <= 1100; n++ {
			c := wide()
			*f.at(&c) = n
			if got, want := admit.Right(c), f.least <= n && n <= f.most; got != want {
				t.Errorf("%s %d: %t", f.name, n, got)
			}
		}
	}
}

// 17.1: all settings may be at the least, all at the greatest, of their ranges; none may be out of it then.
func TestRightAtAllEdges(t *testing.T) {
	least, most := config(), config()
	for _, f := range fields() {
		*f.at(&least), *f.at(&most) = f.least, f.most
	}
	least.Programs, most.Programs = make([][]api.Op, 1), make([][]api.Op, 16)
	expectRight(t, "least", least, true)
	expectRight(t, "most", most, true)
	for _, f := range fields() {
		c, d := least, most
		*f.at(&c)--
		*f.at(&d)++
		expectRight(t, f.name, c, false)
		expectRight(t, f.name, d, false)
	}
}

// 17.1: Base is not above Most.
func TestRightOfBaseAndMost(t *testing.T) {
	numbers := []int{math.MinInt, -1, 0, 1, 2, 3, 4, 8, 500000, 999999, 1000000, 1000001, math.MaxInt}
	for _, base := range numbers {
		for _, most := range numbers {
			c := config()
			c.Base, c.Most = base, most
			expectRight(t, "base and most", c, 1 <= base && base <= most && most <= 1000000)
		}
	}
}

// 17.1: there are from 1 to 16 programs; what they do is not asked.
func TestRightOfPrograms(t *testing.T) {
	for n := range 40 {
		c := config()
		c.Programs = make([][]api.Op, n)
		expectRight(t, "empty programs", c, 1 <= n && n <= 16)
		for i := range c.Programs {
			c.Programs[i] = []api.Op{{Kind: -1, A: math.MaxInt, B: math.MinInt}, {}}
		}
		expectRight(t, "odd programs", c, 1 <= n && n <= 16)
	}
	c := config()
	c.Programs = nil
	expectRight(t, "nil", c, false)
	// What lies behind the list's length is none of its programs.
	c.Programs = make([][]api.Op, 0, 16)
	expectRight(t, "none of 16", c, false)
	c.Programs = make([][]api.Op, 17)[:16]
	expectRight(t, "16 of 17", c, true)
}

// 17.1: the deadline is that of the stamp and the timeout; 0, if there is none.
func TestDeadline(t *testing.T) {
	for _, l := range []struct {
		stamp   int
		timeout string
		want    int
	}{
		{100, "20u", 120}, {0, "0u", 0}, {5, "4u", 9}, {5, "0u", 5}, {7, "2m", 2007}, {7, "3S", 3000007},
		{-5, "3u", 3}, {math.MinInt, "3u", 3}, {tick - 1, "5u", tick}, {math.MaxInt, "0u", tick}, {math.MaxInt, "99999999H", tick},
		{100, "", 0}, {100, "20", 0}, {100, "u", 0}, {100, "20x", 0}, {100, "-2u", 0}, {100, "123456789u", 0}, {math.MaxInt, "", 0}, {-5, "?", 0},
	} {
		if got := admit.Deadline(api.Packet{Kind: api.Call, Stamp: l.stamp, Timeout: l.timeout}); got != l.want {
			t.Errorf("of %d, %q the deadline is %d, not %d", l.stamp, l.timeout, got, l.want)
		}
	}
	for _, stamp := range numbers() {
		for _, s := range spans() {
			if got := admit.Deadline(api.Packet{Stamp: stamp, Timeout: s.s}); got != due(stamp, s) {
				t.Errorf("of %d, %q the deadline is %d, not %d", stamp, s.s, got, due(stamp, s))
			}
		}
	}
}

// others are packets that have all of p that is asked, and other numbers everywhere else.
func others(p api.Packet) []api.Packet {
	var list []api.Packet
	for kind := -1; kind <= 7; kind++ {
		for _, n := range []int{math.MinInt, -1, 0, 1, 9, math.MaxInt} {
			id := api.Id{Node: n, Inc: n, Seq: n}
			k := api.Key{Id: id, Att: n}
			list = append(list, api.Packet{
				Kind: kind, From: n, To: n, Key: k, Hop: p.Hop, Stamp: p.Stamp, Timeout: p.Timeout, Until: p.Until, Program: p.Program,
				Root: id, Parent: k, Code: n, Value: n, More: n > 0, Delay: n,
			})
		}
	}
	return list
}

// 17.1: the kind of a packet is not asked, nor what else it has.
func TestWhateverPacket(t *testing.T) {
	c, r := config(), room()
	for _, p := range others(packet()) {
		if got := admit.Deadline(p); got != 120 {
			t.Fatalf("Deadline(%+v) = %d", p, got)
		}
		expectCheck(t, c, p, r, start, 0)
		q := p
		q.Hop = 3
		expectCheck(t, c, q, r, refuse, exhausted)
		q = p
		q.Program = 2
		expectCheck(t, c, q, r, refuse, unimplemented)
		q = p
		q.Timeout = ""
		expectCheck(t, c, q, r, refuse, deadline)
		q = p
		q.Until = 105
		expectCheck(t, c, q, r, refuse, cancelled)
		busy := r
		busy.Running = 5
		expectCheck(t, c, p, busy, later, 4)
	}
}

// 17.1: of a configuration Hops, Least, Cap and Base are asked alone, whether it may be or not.
func TestWhateverConfig(t *testing.T) {
	for _, n := range []int{math.MinInt, -1, 0, 1, 9, math.MaxInt} {
		for programs := range 4 {
			c := api.Config{Nodes: n, Skew: n, Lease: n, Grain: n, Least: 3, Hops: 2, Cap: 5, Fan: n, Attempts: n, Base: 4, Most: n, Wait: n, Tokens: n, Programs: make([][]api.Op, programs)}
			p, r := packet(), room()
			expectCheck(t, c, p, r, start, 0)
			r.Running = 5
			expectCheck(t, c, p, r, later, 4)
			p.Until = 105
			expectCheck(t, c, p, r, refuse, cancelled)
			p.Timeout = "7u"
			expectCheck(t, c, p, r, refuse, deadline)
			p.Program = 2
			expectCheck(t, c, p, r, refuse, unimplemented)
			p.Hop = 3
			expectCheck(t, c, p, r, refuse, exhausted)
			r.Seen = true
			expectCheck(t, c, p, r, ignore, 0)
		}
	}
}

// 17.1: who was seen is ignored.
func TestSeen(t *testing.T) {
	c, p, r := config(), packet(), room()
	expectCheck(t, c, p, r, start, 0)
	r.Seen = true
	expectCheck(t, c, p, r, ignore, 0)
	expectCheck(t, api.Config{}, api.Packet{}, admit.Room{Seen: true}, ignore, 0)
}

// 17.1: a hop above Hops is refused, and none else.
func TestHops(t *testing.T) {
	c, p, r := config(), packet(), room()
	for _, hops := range []int{math.MinInt, -1, 0, 1, 2, 3, 16, 17, math.MaxInt} {
		for _, hop := range []int{math.MinInt, -2, -1, 0, 1, 2, 3, 4, 15, 16, 17, 18, math.MaxInt} {
			c.Hops, p.Hop = hops, hop
			if hop > hops {
				expectCheck(t, c, p, r, refuse, exhausted)
			} else {
				expectCheck(t, c, p, r, start, 0)
			}
		}
	}
}

// 17.1: a program is from 0 to Programs of the room less 1.
func TestPrograms(t *testing.T) {
	c, p, r := config(), packet(), room()
	for _, programs := range []int{math.MinInt, -1, 0, 1, 2, 3, 15, 16, 17, math.MaxInt} {
		for _, program := range []int{math.MinInt, -2, -1, 0, 1, 2, 3, 14, 15, 16, 17, math.MaxInt - 1, math.MaxInt} {
			p.Program, r.Programs = program, programs
			if 0 <= program && program < programs {
				expectCheck(t, c, p, r, start, 0)
			} else {
				expectCheck(t, c, p, r, refuse, unimplemented)
			}
		}
	}
}

// 17.1: so much is left as Least says, and something.
func TestLeast(t *testing.T) {
	for _, l := range []struct {
		now, least int
		begun      bool
	}{
		{105, 3, true}, {117, 3, true}, {118, 3, false}, {120, 3, false}, {121, 3, false}, {119, 1, true}, {120, 1, false}, {119, 2, false},
		{0, 120, true}, {0, 121, false}, {-7, 120, true}, {math.MinInt, 120, true}, {math.MinInt, 121, false}, {100, 20, true}, {100, 21, false},
		{119, 0, true}, {120, 0, false}, {119, -5, true}, {120, -5, false}, {120, math.MinInt, false}, {0, math.MaxInt, false}, {math.MaxInt, 0, false},
	} {
		c, p, r := config(), packet(), room()
		c.Least, r.Now = l.least, l.now
		if l.begun {
			expectCheck(t, c, p, r, start, 0)
		} else {
			expectCheck(t, c, p, r, refuse, deadline)
		}
	}
}

// 17.1: without a timeout there is no deadline ahead, whatever the stamp is.
func TestNoTimeout(t *testing.T) {
	c, r := config(), room()
	for _, s := range spans() {
		if s.n >= 0 {
			continue
		}
		for _, stamp := range numbers() {
			for _, now := range numbers() {
				p := packet()
				p.Stamp, p.Timeout, r.Now = stamp, s.s, now
				expectCheck(t, c, p, r, refuse, deadline)
			}
		}
	}
}

// 17.1: a lease that is over is refused: now is not below until, as the times that they stand for.
func TestUntil(t *testing.T) {
	for _, l := range []struct {
		now, until int
		begun      bool
	}{
		{105, 106, true}, {105, 105, false}, {105, 104, false}, {105, 0, false}, {105, -1, false}, {105, math.MinInt, false},
		{105, tick, true}, {105, tick + 1, true}, {105, math.MaxInt, true}, {0, 1, true}, {0, 0, false}, {0, -1, false},
		// Now that is below 0 stands for 0, so that no lease up to 0 is ahead.
		{-1, 1, true}, {-1, 0, false}, {-1, -1, false}, {-5, -3, false}, {math.MinInt, 0, false}, {math.MinInt, 1, true}, {math.MinInt, math.MinInt + 1, false},
	} {
		c, p, r := config(), packet(), room()
		p.Until, r.Now = l.until, l.now
		if l.begun {
			expectCheck(t, c, p, r, start, 0)
		} else {
			expectCheck(t, c, p, r, refuse, cancelled)
		}
	}
}

// 17.1: with no room it is later, and Base is told.
func TestCap(t *testing.T) {
	c, p, r := config(), packet(), room()
	for _, most := range []int{math.MinInt, -1, 0, 1, 5, 64, math.MaxInt} {
		for _, running := range []int{math.MinInt, -2, -1, 0, 1, 4, 5, 6, 63, 64, 65, math.MaxInt} {
			for _, base := range []int{1, 4, 77, 1000000} {
				c.Cap, c.Base, r.Running = most, base, running
				if running < most {
					expectCheck(t, c, p, r, start, 0)
				} else {
					expectCheck(t, c, p, r, later, base)
				}
			}
		}
	}
}

// R2: where several apply, the one that is named first is told.
func TestFirstNamed(t *testing.T) {
	reasons := []struct {
		change       func(p *api.Packet, r *admit.Room)
		what, number int
	}{
		{func(_ *api.Packet, r *admit.Room) { r.Seen = true }, ignore, 0},
		{func(p *api.Packet, _ *admit.Room) { p.Hop = 3 }, refuse, exhausted},
		{func(p *api.Packet, _ *admit.Room) { p.Program = -1 }, refuse, unimplemented},
		{func(p *api.Packet, _ *admit.Room) { p.Timeout = "7u" }, refuse, deadline},
		{func(p *api.Packet, _ *admit.Room) { p.Until = 105 }, refuse, cancelled},
		{func(_ *api.Packet, r *admit.Room) { r.Running = 5 }, later, 4},
	}
	for some := range 1 << len(reasons) {
		p, r := packet(), room()
		what, number := start, 0
		for i := len(reasons) - 1; i >= 0; i-- {
			if some>>i&1 == 1 {
				reasons[i].change(&p, &r)
				what, number = reasons[i].what, reasons[i].number
			}
		}
		expectCheck(t, config(), p, r, what, number)
	}
}

// 17.1: of all times, the edges and those out of range too, as the rule says.
func TestTimes(t *testing.T) {
	for _, now := range numbers() {
		for _, stamp := range numbers() {
			for _, until := range numbers() {
				for _, s := range spans() {
					for _, least := range []int{-1, 0, 1, 3, 20, tick, math.MaxInt} {
						c, p, r := config(), packet(), room()
						c.Least, p.Stamp, p.Timeout, p.Until, r.Now = least, stamp, s.s, until, now
						what, number := check(c, p, s, r)
						expectCheck(t, c, p, r, what, number)
					}
				}
			}
		}
	}
}

// drawn is a configuration, a call and a room, with numbers that are near each other, of which many begin.
func drawn(r *rand.Rand) (api.Config, api.Packet, span, admit.Room) {
	c, p, all := config(), packet(), spans()
	c.Least, c.Hops, c.Cap, c.Base = 1+r.Intn(4), 1+r.Intn(4), 1+r.Intn(4), 1+r.Intn(9)
	s := all[r.Intn(6)]
	if r.Intn(4) == 0 {
		s = all[r.Intn(len(all))]
	}
	p.Stamp, p.Timeout, p.Until, p.Hop, p.Program = r.Intn(20), s.s, r.Intn(40)-2, 1+r.Intn(4), r.Intn(5)-1
	return c, p, s, admit.Room{Now: r.Intn(40) - 2, Running: r.Intn(5), Programs: r.Intn(6), Seen: r.Intn(8) == 0}
}

// 17.1: of all kinds of calls at random, as the rule says; and the same when it is asked again.
func TestAsTheRule(t *testing.T) {
	r := rand.New(rand.NewSource(17))
	met := map[[2]int]int{}
	for range 200000 {
		c, p, s, x := drawn(r)
		what, number := check(c, p, s, x)
		expectCheck(t, c, p, x, what, number)
		expectCheck(t, c, p, x, what, number)
		if what == later {
			number = 0
		}
		met[[2]int{what, number}]++
	}
	if len(met) != 7 {
		t.Errorf("not all was met: %v", met)
	}
}

// 17.2: what is begun has time left, a lease, a hop that may be and a program, and there is room for it.
func TestBegun(t *testing.T) {
	r := rand.New(rand.NewSource(2))
	begun := 0
	for range 200000 {
		c, p, _, x := drawn(r)
		if what, _ := admit.Check(c, p, x); what != start {
			continue
		}
		begun++
		end := admit.Deadline(p)
		if code, over := lease.Over(x.Now, end, p.Until); over {
			t.Fatalf("%+v in %+v is begun, and over with %d", p, x, code)
		}
		if budget.Left(end, x.Now) < c.Least || p.Hop < 1 || p.Hop > c.Hops || p.Program < 0 || p.Program >= x.Programs || x.Running >= c.Cap || x.Seen {
			t.Fatalf("%+v in %+v is begun, with %+v", p, x, c)
		}
	}
	if begun < 1000 {
		t.Errorf("%d were begun", begun)
	}
}

// 17.2: a lease, and time, are there whatever the numbers are.
func TestBegunAtTheEdges(t *testing.T) {
	c, r := config(), room()
	for _, now := range numbers() {
		for _, stamp := range numbers() {
			for _, until := range numbers() {
				p := packet()
				p.Stamp, p.Until, r.Now = stamp, until, now
				if what, _ := admit.Check(c, p, r); what != start {
					continue
				}
				if _, over := lease.Over(now, admit.Deadline(p), until); over || budget.Left(admit.Deadline(p), now) < 3 {
					t.Fatalf("%+v is begun at %d", p, now)
				}
			}
		}
	}
}

// 17.2: who is refused for its time is never begun later, however many run then, and whatever else there is.
func TestNeverBegunLater(t *testing.T) {
	r := rand.New(rand.NewSource(3))
	refused := 0
	for range 50000 {
		c, p, _, x := drawn(r)
		what, code := admit.Check(c, p, x)
		if what != refuse || code != deadline && code != cancelled {
			continue
		}
		refused++
		for now := x.Now; now < x.Now+60; now++ {
			y := admit.Room{Now: now, Running: r.Intn(x.Running + 1), Programs: x.Programs + r.Intn(3), Seen: r.Intn(9) == 0}
			if what, _ := admit.Check(c, p, y); what == start || what == later {
				t.Fatalf("%+v is refused in %+v, and then in %+v it is %d", p, x, y, what)
			}
		}
		x.Now = math.MaxInt
		expectCheck(t, c, p, x, refuse, deadline)
	}
	if refused < 1000 {
		t.Errorf("%d were refused", refused)
	}
}

// R4: the programs that were handed in stay.
func TestConfigStays(t *testing.T) {
	c := config()
	list := [][]api.Op{{{Kind: api.Answer, A: 5}}, {{Kind: api.Work, A: 2}, {Kind: api.Fail, A: 3}}, {{Kind: -1}}}
	c.Programs = list[:2]
	admit.Right(c)
	admit.Check(c, packet(), room())
	want := [][]api.Op{{{Kind: api.Answer, A: 5}}, {{Kind: api.Work, A: 2}, {Kind: api.Fail, A: 3}}, {{Kind: -1}}}
	if !slices.EqualFunc(list, want, slices.Equal[[]api.Op]) {
		t.Errorf("%v, not %v", list, want)
	}
}

// The chapter's example.
func TestExample(t *testing.T) {
	c, p, r := config(), packet(), room()
	p.Stamp, p.Timeout, r.Now = 5, "4u", 10
	expectCheck(t, c, p, r, refuse, deadline)
}
