package alarm_test

import (
	"math"
	"math/rand"
	"slices"
	"testing"

	"hourglass/alarm"
	"hourglass/api"
)

// The limits, written out.
const (
	most = 1125899906842624
	full = 4096
)

func clamped(n int) int {
	return max(0, min(n, most))
}

// grains are what New makes of powers, those that are out of range too.
var grains = []struct{ power, grain int }{
	{math.MinInt, 1}, {-64, 1}, {-1, 1}, {0, 1}, {1, 2}, {2, 4}, {3, 8}, {4, 16}, {5, 32}, {6, 64}, {7, 64}, {64, 64}, {math.MaxInt, 64},
}

// times are ordinary ones, those around each grain, and numbers that stand for others.
func times() []int {
	l := []int{math.MinInt, math.MinInt + 1, -64, -1, 0, 1, 5, 7, 70, 100, 1000, 123456, 987654321, 0x2AAAAAAAAAAAA, 2 * most, math.MaxInt - 1, math.MaxInt}
	for _, edge := range []int{8, 16, 32, 64, 128, 4096, 1 << 24, most - 64, most} {
		l = append(l, edge-1, edge, edge+1)
	}
	return l
}

// named is the name of an ordinary key, and a kind.
func named(seq, kind int) alarm.Name {
	return alarm.Name{K: api.Key{Id: api.Id{Node: 3, Seq: seq}, Att: 1}, Kind: kind}
}

// rising are names, each of which stands ahead of the next one, those of keys that may not be too.
func rising() []alarm.Name {
	var l []alarm.Name
	parts := []int{math.MinInt, -1, 0, 2, math.MaxInt}
	for _, node := range parts {
		for _, inc := range parts {
			for _, seq := range parts {
				for _, att := range parts {
					for _, kind := range parts {
						l = append(l, alarm.Name{K: api.Key{Id: api.Id{Node: node, Inc: inc, Seq: seq}, Att: att}, Kind: kind})
					}
				}
			}
		}
	}
	return l
}

// entry is an alarm of the model, which keeps its alarms rising, and seeks all that it has.
type entry struct {
	name alarm.Name
	at   int
}

type model struct {
	now, grain int
	entries    []entry
}

func (m *model) find(n alarm.Name) (int, bool) {
	return slices.BinarySearchFunc(m.entries, n, func(e entry, n alarm.Name) int { return alarm.Compare(e.name, n) })
}

func (m *model) set(n alarm.Name, t int) api.Errno {
	i, has := m.find(n)
	if has {
		m.entries[i].at = clamped(t)
		return api.OK
	}
	if len(m.entries) >= full {
		return api.ErrFull
	}
	m.entries = slices.Insert(m.entries, i, entry{n, clamped(t)})
	return api.OK
}

func (m *model) clear(n alarm.Name) bool {
	i, has := m.find(n)
	if has {
		m.entries = slices.Delete(m.entries, i, i+1)
	}
	return has
}

func (m *model) time(n alarm.Name) (int, bool) {
	if i, has := m.find(n); has {
		return m.entries[i].at, true
	}
	return 0, false
}

// ripe is the first time at which an alarm is past, as far as a grain goes.
func ripe(at, grain int) int {
	for at%grain != 0 && at < most {
		at++
	}
	return at
}

func (m *model) due(now int) []alarm.Name {
	m.now = max(m.now, clamped(now))
	var told []alarm.Name
	var left []entry
	for _, e := range m.entries {
		if ripe(e.at, m.grain) <= m.now {
			told = append(told, e.name)
		} else {
			left = append(left, e)
		}
	}
	m.entries = left
	return told
}

func (m *model) all() []alarm.Name {
	var l []alarm.Name
	for _, e := range m.entries {
		l = append(l, e.name)
	}
	return l
}

// check holds all that alarms tell of themselves against the model.
func check(t *testing.T, a *alarm.Alarms, m *model) {
	t.Helper()
	if a.Grain() != m.grain || a.Len() != len(m.entries) {
		t.Fatalf("a grain of %d, and %d alarms, not %d, and %d", a.Grain(), a.Len(), m.grain, len(m.entries))
	}
	if got := a.All(); !slices.Equal(got, m.all()) {
		t.Fatalf("All() = %v, not %v", got, m.all())
	}
	for _, e := range m.entries {
		expectTime(t, a, e.name, e.at, true)
	}
}

func expectTime(t *testing.T, a *alarm.Alarms, n alarm.Name, want int, wants bool) {
	t.Helper()
	if at, has := a.Time(n); at != want || has != wants {
		t.Fatalf("Time(%v) = %d, %t, not %d, %t", n, at, has, want, wants)
	}
}

func set(t *testing.T, a *alarm.Alarms, n alarm.Name, at int) {
	t.Helper()
	if e := a.Set(n, at); e != api.OK {
		t.Fatalf("Set(%v, %d) = %v", n, at, e)
	}
}

// expect asks that these names are due at a time.
func expect(t *testing.T, a *alarm.Alarms, now int, want ...alarm.Name) {
	t.Helper()
	if got := a.Due(now); !slices.Equal(got, want) {
		t.Fatalf("Due(%d) = %v, not %v", now, got, want)
	}
}

// 11.1: names are compared by Node, Inc, Seq, Att and Kind, one behind the other.
func TestCompare(t *testing.T) {
	l := rising()
	for i, a := range l {
		for step := -700; step <= 700; step++ {
			j := i + step
			if j < 0 || j >= len(l) {
				continue
			}
			want := max(-1, min(i-j, 1))
			if got := alarm.Compare(a, l[j]); got != want {
				t.Fatalf("Compare(%v, %v) = %d, not %d", a, l[j], got, want)
			}
		}
	}
	if alarm.Compare(l[0], l[len(l)-1]) != -1 || alarm.Compare(l[len(l)-1], l[0]) != 1 || alarm.Compare(alarm.Name{}, alarm.Name{}) != 0 {
		t.Fatal("the first one and the last one")
	}
}

// 11.1: New has no alarms, and a grain of 2 to a power from 0 to 6.
func TestNew(t *testing.T) {
	if alarm.MaxGrain != 6 {
		t.Fatal(alarm.MaxGrain)
	}
	for _, g := range grains {
		a := alarm.New(g.power)
		check(t, a, &model{grain: g.grain})
		expectTime(t, a, alarm.Name{}, 0, false)
		if a.Clear(alarm.Name{}) || a.Clear(named(1, 1)) {
			t.Fatal("something is taken away from new ones")
		}
		expect(t, a, 0)
		expect(t, a, most)
		if a.Grain() != g.grain {
			t.Fatalf("the grain becomes %d", a.Grain())
		}
	}
}

// 11.2: alarms are at 0 at first.
func TestAtFirst(t *testing.T) {
	for _, g := range grains {
		a := alarm.New(g.power)
		set(t, a, named(1, 0), 1)
		set(t, a, named(2, 0), 0)
		set(t, a, named(3, 0), -5)
		expect(t, a, math.MinInt, named(2, 0), named(3, 0))
		expectTime(t, a, named(1, 0), 1, true)
	}
}

// Nil ones, and such as New did not make, have none, and stay so.
func TestNotMade(t *testing.T) {
	var zero alarm.Alarms
	other := alarm.New(2)
	set(t, other, named(1, 0), 5)
	set(t, other, named(2, 0), 9)
	copied := *other
	for name, a := range map[string]*alarm.Alarms{"nil": nil, "zero": &zero, "new": new(alarm.Alarms), "copied": &copied} {
		for range 3 {
			for _, n := range []alarm.Name{{}, named(1, 0), named(2, 0), named(-1, -1)} {
				if e := a.Set(n, 5); e != api.ErrNil {
					t.Errorf("%s: Set is %v", name, e)
				}
				at, has := a.Time(n)
				if at != 0 || has || a.Clear(n) {
					t.Errorf("%s has %v, at %d, %t", name, n, at, has)
				}
			}
			for _, now := range []int{math.MinInt, 0, 8, most, math.MaxInt} {
				if got := a.Due(now); len(got) != 0 {
					t.Errorf("%s: Due(%d) = %v", name, now, got)
				}
			}
			if a.Grain() != 0 || a.Len() != 0 || len(a.All()) != 0 {
				t.Errorf("%s: a grain of %d, and %d alarms, %v", name, a.Grain(), a.Len(), a.All())
			}
		}
	}
	// The ones that were copied go on as if nobody had.
	check(t, other, &model{grain: 4, entries: []entry{{named(1, 0), 5}, {named(2, 0), 9}}})
	expect(t, other, 8, named(1, 0))
	expect(t, other, 12, named(2, 0))
}

// 11.1: an alarm's time is what Clamp makes of it, not what the grain does.
func TestTime(t *testing.T) {
	for _, g := range grains {
		a := alarm.New(g.power)
		for i, at := range times() {
			set(t, a, named(i, 0), at)
			expectTime(t, a, named(i, 0), clamped(at), true)
			expectTime(t, a, named(i, 1), 0, false)
			set(t, a, named(7, 7), at)
			expectTime(t, a, named(7, 7), clamped(at), true)
		}
	}
}

// 11.1: of one name there is one alarm, the one that was set last.
func TestSetAgain(t *testing.T) {
	for _, g := range grains {
		for _, first := range times() {
			for _, second := range times() {
				a := alarm.New(g.power)
				n, other := named(1, 0), named(1, 1)
				set(t, a, other, first)
				set(t, a, n, first)
				set(t, a, n, second)
				if a.Len() != 2 {
					t.Fatal(a.Len())
				}
				expectTime(t, a, n, clamped(second), true)
				expectTime(t, a, other, clamped(first), true)
				a.Clear(other)
				if then := ripe(clamped(second), g.grain); then > 0 {
					expect(t, a, then-1)
					expect(t, a, then, n)
				} else {
					expect(t, a, 0, n)
				}
				expect(t, a, most)
				expectTime(t, a, n, 0, false)
			}
		}
	}
}

// 11.1: what is taken away is there once, is told no more, and takes nothing else with it.
func TestClear(t *testing.T) {
	l := rising()[1000:1064]
	for i, n := range l {
		a, m := alarm.New(3), &model{grain: 8}
		for j, other := range l {
			set(t, a, other, j%7*10)
			m.set(other, j%7*10)
		}
		for _, want := range []bool{true, false, false} {
			if got := a.Clear(n); got != want {
				t.Fatalf("Clear(%v) = %t", n, got)
			}
			m.clear(n)
			check(t, a, m)
			expectTime(t, a, n, 0, false)
		}
		if a.Clear(named(99, 99)) {
			t.Fatal("one of no such name is taken away")
		}
		set(t, a, n, 45)
		m.set(n, 45)
		set(t, a, l[(i+1)%len(l)], 46)
		m.set(l[(i+1)%len(l)], 46)
		for _, now := range []int{0, 16, 47, 48, 100} {
			expect(t, a, now, m.due(now)...)
			check(t, a, m)
		}
		if a.Clear(n) || a.Len() != 0 {
			t.Fatal(a.Len())
		}
	}
}

// 11.1: names that differ in one part alone, or may not be, have alarms of their own, and All tells them rising.
func TestNames(t *testing.T) {
	l := rising()
	mixed := slices.Clone(l)
	rand.New(rand.NewSource(1)).Shuffle(len(mixed), func(i, j int) { mixed[i], mixed[j] = mixed[j], mixed[i] })
	a := alarm.New(0)
	for i, n := range mixed {
		set(t, a, n, i)
	}
	if a.Len() != len(l) || !slices.Equal(a.All(), l) {
		t.Fatalf("%d names, not %d, or others, or not rising", a.Len(), len(l))
	}
	for i, n := range mixed {
		expectTime(t, a, n, i, true)
	}
	// All takes nothing away, and those that are due are told rising, whenever they were set, and whatever their times.
	expect(t, a, full, l...)
	if a.Len() != 0 || len(a.All()) != 0 {
		t.Fatal(a.Len())
	}
}

// 11.1: with 4096 alarms there is no room for another name, but for another time of each one that is there.
func TestFull(t *testing.T) {
	for _, g := range grains {
		a := alarm.New(g.power)
		for i := range full {
			set(t, a, named(i, 0), 1000+i)
		}
		for range 3 {
			for _, at := range times() {
				for _, n := range []alarm.Name{named(full, 0), named(0, 1), {}} {
					if e := a.Set(n, at); e != api.ErrFull {
						t.Fatalf("Set(%v, %d) = %v", n, at, e)
					}
					expectTime(t, a, n, 0, false)
				}
			}
			if a.Len() != full || len(a.All()) != full {
				t.Fatal(a.Len())
			}
			for i := range full {
				set(t, a, named(i, 0), 2000+i)
				expectTime(t, a, named(i, 0), 2000+i, true)
			}
		}
		expect(t, a, 1999)
		if !a.Clear(named(77, 0)) || a.Len() != full-1 {
			t.Fatal(a.Len())
		}
		set(t, a, named(0, 1), 5)
		if e := a.Set(named(77, 0), 5); e != api.ErrFull {
			t.Fatal(e)
		}
		expect(t, a, 0, named(0, 1))
		set(t, a, named(77, 0), 5)
		if got := a.Due(most); len(got) != full || !slices.IsSortedFunc(got, alarm.Compare) {
			t.Fatal(len(got))
		}
		set(t, a, named(0, 1), 5)
	}
}

// The chapter's example: with a grain of 4, an alarm at 5 is due at 8, not at 7.
func TestExample(t *testing.T) {
	a := alarm.New(2)
	set(t, a, named(1, 0), 5)
	expect(t, a, 7)
	expect(t, a, 8, named(1, 0))
	expect(t, a, 9)
}

// 11.2: what is due is told by names, not by times, nor as it was set.
func TestDueRises(t *testing.T) {
	a := alarm.New(1)
	for i, n := range []alarm.Name{named(2, 0), named(1, 2), named(3, -1), named(1, 0), named(2, -1)} {
		set(t, a, n, 50-i*10)
	}
	set(t, a, named(1, 1), 51)
	expect(t, a, 50, named(1, 0), named(1, 2), named(2, -1), named(2, 0), named(3, -1))
	expect(t, a, 51)
	expect(t, a, 52, named(1, 1))
}

// 11.2: who asks for what is behind them finds the alarms where they are.
func TestBack(t *testing.T) {
	a := alarm.New(3)
	set(t, a, named(9, 0), 105)
	expect(t, a, 100)
	set(t, a, named(1, 0), 97)
	set(t, a, named(2, 0), 96)
	set(t, a, named(3, 0), 3)
	set(t, a, named(4, 0), math.MinInt)
	// At 100 the grain goes no further than to 96.
	expect(t, a, 50, named(2, 0), named(3, 0), named(4, 0))
	expect(t, a, math.MinInt)
	expect(t, a, 103)
	expect(t, a, 104, named(1, 0))
	expect(t, a, 0)
	expect(t, a, 111)
	expect(t, a, math.MaxInt, named(9, 0))
	set(t, a, named(5, 0), math.MaxInt)
	set(t, a, named(6, 0), most-1)
	expect(t, a, 0, named(5, 0), named(6, 0))
}

// 11.2: at the greatest time all alarms are past, and none of the greatest times is ahead of it.
func TestGreatest(t *testing.T) {
	for _, g := range grains {
		a, m := alarm.New(g.power), &model{grain: g.grain}
		for i := range 200 {
			set(t, a, named(i, 0), most+70-i)
			m.set(named(i, 0), most+70-i)
		}
		for now := most - 140; now < most; now++ {
			expect(t, a, now, m.due(now)...)
			check(t, a, m)
		}
		if a.Len() < 71 {
			t.Fatal(a.Len())
		}
		expect(t, a, most, m.due(most)...)
		if a.Len() != 0 {
			t.Fatal(a.Len())
		}
	}
}

// 11.2: going on from each time to each one tells what is past, as far as the grain goes, and keeps the rest.
func TestAtOnce(t *testing.T) {
	for _, g := range grains {
		for _, from := range times() {
			for _, to := range times() {
				a, m := alarm.New(g.power), &model{grain: g.grain}
				expect(t, a, from, m.due(from)...)
				for i, at := range times() {
					set(t, a, named(i, 0), at)
					m.set(named(i, 0), at)
				}
				expect(t, a, to, m.due(to)...)
				check(t, a, m)
				expect(t, a, to)
				expect(t, a, most, m.due(most)...)
			}
		}
	}
}

// 11.3: asked tick by tick, an alarm is told no earlier than its time, and by less than a grain later.
func TestTickByTick(t *testing.T) {
	for _, g := range grains {
		for _, begin := range []int{0, 4096 - 70, 1<<24 - 300} {
			a := alarm.New(g.power)
			a.Due(begin)
			at := map[alarm.Name]int{}
			for i := range 700 {
				n := named(i, i%3)
				at[n] = begin + 1 + i*37%600
				set(t, a, n, at[n])
			}
			seen := 0
			for now := begin + 1; now <= begin+600+g.grain; now++ {
				for _, n := range a.Due(now) {
					seen++
					if now < at[n] || now >= at[n]+g.grain || now%g.grain != 0 {
						t.Fatalf("with a grain of %d, %d is told at %d", g.grain, at[n], now)
					}
				}
			}
			if seen != 700 || a.Len() != 0 {
				t.Fatal(seen, a.Len())
			}
		}
	}
}

// some tells a number near a time, mostly.
func some(r *rand.Rand, now int) int {
	switch r.Intn(12) {
	case 0:
		return now - r.Intn(200)
	case 1:
		return r.Int() - r.Int()
	case 2:
		return most - r.Intn(200)
	case 3:
		return now + r.Intn(1<<26)
	}
	return now + r.Intn(300)
}

// 11.1 and 11.2: whatever is done, in whichever order, is as the model says.
func TestAsTheModel(t *testing.T) {
	for seed := range int64(300) {
		r := rand.New(rand.NewSource(seed))
		g := grains[r.Intn(len(grains))]
		a, m := alarm.New(g.power), &model{grain: g.grain}
		for range 400 {
			n := named(r.Intn(6)-1, r.Intn(5)-1)
			switch r.Intn(8) {
			case 0, 1, 2, 3:
				at := some(r, m.now)
				if got, want := a.Set(n, at), m.set(n, at); got != want {
					t.Fatal(seed, n, at, got)
				}
			case 4:
				if got, want := a.Clear(n), m.clear(n); got != want {
					t.Fatal(seed, n, got)
				}
			case 5:
				at, has := m.time(n)
				expectTime(t, a, n, at, has)
			default:
				now := m.now + r.Intn(130)
				if r.Intn(8) == 0 {
					now = min(some(r, m.now), most/2)
				}
				expect(t, a, now, m.due(now)...)
			}
			check(t, a, m)
		}
	}
}

// Two have nothing in common, and what is told may be changed without changing them.
func TestAnswersAreNew(t *testing.T) {
	a, b := alarm.New(0), alarm.New(0)
	m := &model{grain: 1}
	for i := range 300 {
		set(t, a, named(i, 0), i)
		m.set(named(i, 0), i)
	}
	if b.Len() != 0 {
		t.Fatal(b.Len())
	}
	for now := 0; now < 300; now += 23 {
		for _, got := range [][]alarm.Name{a.All(), a.Due(now)} {
			got = got[:cap(got)]
			for i := range got {
				got[i] = alarm.Name{Kind: -7}
			}
		}
		m.due(now)
		check(t, a, m)
	}
	expect(t, b, most)
}

// However often an alarm is set anew, or taken away, there is room for it, and it is told once.
func TestManyTimes(t *testing.T) {
	a := alarm.New(6)
	for i := range 20 * full {
		set(t, a, named(i%3, 0), i)
		if i%5 == 0 {
			a.Clear(named(i%3, 0))
		}
	}
	expect(t, a, 30*full, named(0, 0), named(1, 0), named(2, 0))
	expect(t, a, most)
}
