package wheel_test

import (
	"cmp"
	"math"
	"math/rand"
	"slices"
	"testing"

	"hourglass/api"
	"hourglass/wheel"
)

// The limits, written out.
const (
	most = 1125899906842624
	full = 4096
	turn = 16777216
)

// lengths are the spans of a slot of each level, and of the turn of all levels.
var lengths = []int{1, 64, 4096, 262144, turn}

func clamped(n int) int {
	return max(0, min(n, most))
}

// times are ordinary ones, those around each slot's beginning of each level, and numbers that stand for others.
func times() []int {
	l := []int{math.MinInt, math.MinInt + 1, -turn, -64, -1, 5, 7, 70, 100, 1000, 123456, 987654321, 0x2AAAAAAAAAAAA, 0x23456789ABCDE, 2 * most, math.MaxInt - 1, math.MaxInt}
	for _, length := range lengths {
		for _, n := range []int{1, 2, 63} {
			l = append(l, n*length-1, n*length, n*length+1)
		}
	}
	for _, edge := range []int{0, 64 * turn, most - turn, most} {
		l = append(l, edge-1, edge, edge+1)
	}
	return l
}

// entry is a time of the model, which seeks all that it has, and knows nothing of slots.
type entry struct{ handle, at int }

type model struct {
	now, last int
	entries   []entry
}

func newModel(now int) *model {
	return &model{now: clamped(now)}
}

func (m *model) add(at int) (int, api.Errno) {
	if len(m.entries) >= full {
		return 0, api.ErrFull
	}
	m.last++
	m.entries = append(m.entries, entry{m.last, clamped(at)})
	return m.last, api.OK
}

func (m *model) find(handle int) int {
	return slices.IndexFunc(m.entries, func(e entry) bool { return e.handle == handle })
}

func (m *model) cancel(handle int) bool {
	i := m.find(handle)
	if i < 0 {
		return false
	}
	m.entries = slices.Delete(m.entries, i, i+1)
	return true
}

func (m *model) time(handle int) (int, bool) {
	if i := m.find(handle); i >= 0 {
		return m.entries[i].at, true
	}
	return 0, false
}

func (m *model) first() (int, bool) {
	if len(m.entries) == 0 {
		return 0, false
	}
	return slices.MinFunc(m.entries, func(a, b entry) int { return cmp.Compare(a.at, b.at) }).at, true
}

func (m *model) advance(to int) []int {
	m.now = max(m.now, clamped(to))
	var due, left []entry
	for _, e := range m.entries {
		if e.at <= m.now {
			due = append(due, e)
		} else {
			left = append(left, e)
		}
	}
	// Handles stand rising, so that of one time they stay so.
	slices.SortStableFunc(due, func(a, b entry) int { return cmp.Compare(a.at, b.at) })
	m.entries = left
	var handles []int
	for _, e := range due {
		handles = append(handles, e.handle)
	}
	return handles
}

// check holds all that a wheel tells of itself against the model.
func check(t *testing.T, w *wheel.Wheel, m *model) {
	t.Helper()
	if w.Now() != m.now || w.Len() != len(m.entries) {
		t.Fatalf("at %d with %d times, not at %d with %d", w.Now(), w.Len(), m.now, len(m.entries))
	}
	at, has := w.First()
	if want, wants := m.first(); at != want || has != wants {
		t.Fatalf("at %d: First is %d, %t, not %d, %t", m.now, at, has, want, wants)
	}
}

// checkTimes holds the time of each handle, and of some that are none, against the model.
func checkTimes(t *testing.T, w *wheel.Wheel, m *model) {
	t.Helper()
	handles := []int{math.MinInt, -full, -1, 0, m.last + 1, m.last + full, math.MaxInt}
	for handle := range m.last {
		handles = append(handles, handle+1)
	}
	known := map[int]int{}
	for _, e := range m.entries {
		known[e.handle] = e.at
	}
	for _, handle := range handles {
		want, wants := known[handle]
		if at, has := w.Time(handle); at != want || has != wants {
			t.Fatalf("at %d: Time(%d) = %d, %t, not %d, %t", m.now, handle, at, has, want, wants)
		}
	}
}

// laid makes a wheel at a time, with these times.
func laid(t *testing.T, now int, ats ...int) *wheel.Wheel {
	t.Helper()
	w := wheel.New(now)
	for i, at := range ats {
		if handle, e := w.Add(at); handle != i+1 || e != api.OK {
			t.Fatalf("Add(%d) = %d, %v, not %d", at, handle, e, i+1)
		}
	}
	return w
}

// expect asks that going on to a time tells these handles.
func expect(t *testing.T, w *wheel.Wheel, to int, want ...int) {
	t.Helper()
	if got := w.Advance(to); !slices.Equal(got, want) {
		t.Fatalf("Advance(%d) = %v, not %v", to, got, want)
	}
}

// 10.1: New is at what Clamp makes of a time, without times.
func TestNew(t *testing.T) {
	for _, now := range times() {
		w := wheel.New(now)
		check(t, w, newModel(now))
		checkTimes(t, w, newModel(now))
		if w.Cancel(0) || w.Cancel(1) || w.Cancel(-1) {
			t.Fatal("something is taken away from a new one")
		}
		expect(t, w, now)
	}
}

// Nil ones, and such as New did not make, have none, and stay so.
func TestNotMade(t *testing.T) {
	var zero wheel.Wheel
	other := laid(t, 100, 50, 100, 101, 5000)
	copied := *other
	for name, w := range map[string]*wheel.Wheel{"nil": nil, "zero": &zero, "new": new(wheel.Wheel), "copied": &copied} {
		for range 3 {
			if handle, e := w.Add(5); handle != 0 || e != api.ErrNil {
				t.Errorf("%s: Add(5) = %d, %v", name, handle, e)
			}
			for _, handle := range []int{-1, 0, 1, 2, math.MaxInt, math.MinInt} {
				at, has := w.Time(handle)
				if at != 0 || has || w.Cancel(handle) {
					t.Errorf("%s has the handle %d: %d, %t", name, handle, at, has)
				}
			}
			for _, to := range []int{math.MinInt, 0, 1, 200, most, math.MaxInt} {
				if got := w.Advance(to); len(got) != 0 {
					t.Errorf("%s: Advance(%d) = %v", name, to, got)
				}
			}
			first, has := w.First()
			if w.Now() != 0 || w.Len() != 0 || first != 0 || has {
				t.Errorf("%s: at %d with %d times, first %d, %t", name, w.Now(), w.Len(), first, has)
			}
		}
	}
	// The one that was copied goes on as if nobody had.
	if other.Now() != 100 || other.Len() != 4 {
		t.Errorf("at %d with %d times", other.Now(), other.Len())
	}
	expect(t, other, 101, 1, 2, 3)
	expect(t, other, most, 4)
}

// 10.1: handles are told from 1 on, one more each, whatever was taken away, told or refused.
func TestHandles(t *testing.T) {
	w := laid(t, 0, 5, 5, 70)
	w.Cancel(3)
	if handle, e := w.Add(0); handle != 4 || e != api.OK {
		t.Fatal(handle, e)
	}
	expect(t, w, 5, 4, 1, 2)
	if w.Len() != 0 {
		t.Fatal(w.Len())
	}
	for want := 5; want < 3*full; want++ {
		if handle, e := w.Add(want); handle != want || e != api.OK {
			t.Fatal(handle, e)
		}
		if !w.Cancel(want) {
			t.Fatal(want)
		}
	}
	if v := laid(t, 9, 9); v.Len() != 1 || w.Len() != 0 {
		t.Fatal("two wheels share")
	}
}

// 10.1: each time is what Clamp makes of it, past ones too.
func TestTime(t *testing.T) {
	for _, now := range times() {
		w, m := wheel.New(now), newModel(now)
		for _, at := range times() {
			handle, e := w.Add(at)
			if want, wants := m.add(at); handle != want || e != wants {
				t.Fatalf("Add(%d) = %d, %v, not %d, %v", at, handle, e, want, wants)
			}
			check(t, w, m)
		}
		checkTimes(t, w, m)
	}
}

// 10.1: with 4096 times it is full, for past ones too, and what is refused takes no handle.
func TestFull(t *testing.T) {
	for _, apart := range []int{0, 1, 63, 4097, turn - 1, most} {
		w := wheel.New(64)
		for i := range full {
			if handle, e := w.Add(70 + i*apart); handle != i+1 || e != api.OK {
				t.Fatal(i, handle, e)
			}
		}
		for _, at := range []int{math.MinInt, 0, 64, 70, 5000, most, math.MaxInt} {
			if handle, e := w.Add(at); handle != 0 || e != api.ErrFull {
				t.Fatalf("Add(%d) = %d, %v", at, handle, e)
			}
		}
		if w.Len() != full || w.Now() != 64 {
			t.Fatal(w.Len(), w.Now())
		}
		if !w.Cancel(2000) || w.Cancel(2000) || w.Len() != full-1 {
			t.Fatal(w.Len())
		}
		if handle, e := w.Add(0); handle != full+1 || e != api.OK || w.Len() != full {
			t.Fatal(handle, e)
		}
		if handle, e := w.Add(0); handle != 0 || e != api.ErrFull {
			t.Fatal(handle, e)
		}
		expect(t, w, 0, full+1)
		if handle, e := w.Add(65); handle != full+2 || e != api.OK {
			t.Fatal(handle, e)
		}
		expect(t, w, 65, full+2)
		if got := w.Advance(most); len(got) != full-1 || !slices.IsSorted(got) || slices.Contains(got, 2000) {
			t.Fatal(len(got))
		}
	}
}

// 10.1: what is cancelled is taken away, once, and nothing else with it.
func TestCancel(t *testing.T) {
	ats := []int{50, 100, 101, 101, 101, 130, 130, 130, 5000, 5000, 1 << 20, 1 << 20, 1 << 30, 1 << 30, 1 << 40, most, most}
	for _, first := range append([]int{0, -1, len(ats) + 1, math.MinInt, math.MaxInt}, count(len(ats))...) {
		for _, second := range count(len(ats)) {
			w, m := laid(t, 100, ats...), newModel(100)
			for _, at := range ats {
				m.add(at)
			}
			for _, handle := range []int{first, second, first, second} {
				if got, want := w.Cancel(handle), m.cancel(handle); got != want {
					t.Fatalf("Cancel(%d) = %t", handle, got)
				}
				check(t, w, m)
			}
			checkTimes(t, w, m)
			for _, to := range []int{100, 101, 129, 5000, 1<<20 - 1, 1 << 30, most} {
				expect(t, w, to, m.advance(to)...)
				check(t, w, m)
			}
		}
	}
}

func count(n int) []int {
	var l []int
	for i := range n {
		l = append(l, i+1)
	}
	return l
}

// 10.1: the earliest time is found, wherever it stands, and whatever stands behind it.
func TestFirst(t *testing.T) {
	for _, now := range times() {
		w := wheel.New(now)
		for _, a := range times() {
			for _, b := range times() {
				one, _ := w.Add(a)
				other, _ := w.Add(b)
				if first, has := w.First(); first != min(clamped(a), clamped(b)) || !has {
					t.Fatalf("at %d, of %d and %d, %d is the first one", now, a, b, first)
				}
				w.Cancel(one)
				if first, has := w.First(); first != clamped(b) || !has {
					t.Fatalf("at %d, %d is the first one, not %d", now, first, b)
				}
				w.Cancel(other)
				if first, has := w.First(); first != 0 || has {
					t.Fatalf("at %d, %d is the first one of none", now, first)
				}
			}
		}
	}
}

// 10.2: the chapter's example.
func TestExample(t *testing.T) {
	w := laid(t, 0, 5, 70)
	expect(t, w, 69, 1)
	expect(t, w, 70, 2)
	expect(t, w, 70)
	expect(t, w, most)
}

// 10.2: what goes back stays, and tells what is past where it is.
func TestBack(t *testing.T) {
	w := laid(t, 100, 101, 100, 99, 50, 0, 100)
	expect(t, w, 7, 5, 4, 3, 2, 6)
	if w.Now() != 100 || w.Len() != 1 {
		t.Fatal(w.Now(), w.Len())
	}
	expect(t, w, math.MinInt)
	if handle, e := w.Add(-3); handle != 7 || e != api.OK {
		t.Fatal(handle, e)
	}
	expect(t, w, math.MinInt, 7)
	expect(t, w, 100)
	expect(t, w, 101, 1)
	expect(t, w, math.MaxInt)
	if w.Now() != most {
		t.Fatal(w.Now())
	}
	w.Add(most)
	w.Add(math.MaxInt)
	w.Add(3)
	expect(t, w, 0, 10, 8, 9)
}

// 10.2: what is due is told by its times, and of one time by its handles, whatever was found anew in between.
func TestOrder(t *testing.T) {
	at := 3*turn + 5*262144 + 6*4096 + 7*64 + 8
	for _, stop := range []int{0, turn - 1, 2 * turn, 3 * turn, 3*turn + 5*262144, 3*turn + 5*262144 + 6*4096, at - 8, at - 1} {
		w := laid(t, 0, at+1, at, at-1, at, at+1, at, at-1)
		if !w.Cancel(2) {
			t.Fatal(stop)
		}
		if stop == at-1 {
			expect(t, w, stop, 3, 7)
			w.Add(at)
			expect(t, w, at+1, 4, 6, 8, 1, 5)
			continue
		}
		expect(t, w, stop)
		w.Add(at)
		expect(t, w, at+1, 3, 7, 4, 6, 8, 1, 5)
	}
}

// 10.2: going on from each time to each one tells those that are not behind, and keeps those that are.
func TestAtOnce(t *testing.T) {
	for _, now := range times() {
		for _, to := range times() {
			w, m := wheel.New(now), newModel(now)
			for _, at := range times() {
				w.Add(at)
				m.add(at)
			}
			expect(t, w, to, m.advance(to)...)
			check(t, w, m)
			checkTimes(t, w, m)
			expect(t, w, to)
			expect(t, w, most, m.advance(most)...)
			check(t, w, m)
		}
	}
}

// 10.3: tick by tick none is told early or late, over two turns of the level 1, around the beginning of a turn of all levels.
func TestTickByTick(t *testing.T) {
	for _, begin := range []int{0, 4096 - 70, turn - 4096 - 3, most - 2*4096} {
		w := wheel.New(begin)
		want := map[int][]int{}
		for i := range full {
			at := min(begin+1+i*1237%(2*4096), most)
			handle, _ := w.Add(at)
			want[at] = append(want[at], handle)
		}
		for now := begin + 1; now <= begin+2*4096; now++ {
			expect(t, w, now, want[now]...)
		}
		if w.Len() != 0 {
			t.Fatal(w.Len())
		}
	}
}

// 10.3: each time is told at its own tick, not at the one ahead, whichever stops are made in between.
func TestNotEarlyNotLate(t *testing.T) {
	for _, now := range times() {
		for _, at := range times() {
			for _, stop := range times() {
				w := laid(t, now, at)
				if clamped(at) <= clamped(now) {
					expect(t, w, stop, 1)
					break
				}
				if clamped(stop) >= clamped(at) {
					stop = clamped(at) - 1
				}
				expect(t, w, stop)
				expect(t, w, clamped(at)-1)
				if first, has := w.First(); first != clamped(at) || !has || w.Len() != 1 {
					t.Fatalf("%d, of %d, has %d to come, first %d", w.Now(), at, w.Len(), first)
				}
				expect(t, w, at, 1)
				if w.Len() != 0 {
					t.Fatal(w.Len())
				}
				expect(t, w, most)
			}
		}
	}
}

// some tells a number around one of the bounds from a time on.
func some(r *rand.Rand, now int) int {
	length := lengths[r.Intn(len(lengths))]
	switch r.Intn(10) {
	case 0:
		return now - r.Intn(100)
	case 1:
		return r.Int() - r.Int()
	case 2:
		return (now/length+r.Intn(66))*length + r.Intn(3) - 1
	case 3:
		return clamped(r.Int())
	}
	return now + r.Intn(1+64*length)
}

// 10.3: to go on at once, or step by step, tells the same ones.
func TestStepByStep(t *testing.T) {
	for seed := range int64(300) {
		r := rand.New(rand.NewSource(seed))
		begin := some(r, r.Intn(3*turn))
		var ats []int
		for range 1 + r.Intn(200) {
			ats = append(ats, some(r, clamped(begin)))
		}
		whole, parts := laid(t, begin, ats...), laid(t, begin, ats...)
		for range 1 + r.Intn(20) {
			handle := 1 + r.Intn(len(ats))
			if whole.Cancel(handle) != parts.Cancel(handle) {
				t.Fatal(seed, handle)
			}
		}
		end := max(parts.Now(), clamped(some(r, parts.Now())))
		var told []int
		for range r.Intn(300) {
			told = append(told, parts.Advance(min(some(r, parts.Now()), end))...)
		}
		told = append(told, parts.Advance(end)...)
		// What is past at first is told first, whichever step is the first one.
		expect(t, whole, end, told...)
		if whole.Now() != parts.Now() || whole.Len() != parts.Len() {
			t.Fatal(seed, whole.Now(), parts.Now(), whole.Len(), parts.Len())
		}
		expect(t, whole, most, parts.Advance(most)...)
	}
}

// 10.1 to 10.3: whatever is done, in whichever order, is as the model says.
func TestAsTheModel(t *testing.T) {
	for seed := range int64(200) {
		r := rand.New(rand.NewSource(seed))
		begin := some(r, r.Intn(3*turn))
		w, m := wheel.New(begin), newModel(begin)
		for range 600 {
			switch r.Intn(7) {
			case 0, 1, 2:
				at := some(r, m.now)
				handle, e := w.Add(at)
				if want, wants := m.add(at); handle != want || e != wants {
					t.Fatal(seed, handle, e)
				}
			case 3, 4:
				handle := r.Intn(m.last+3) - 1
				if got, want := w.Cancel(handle), m.cancel(handle); got != want {
					t.Fatal(seed, handle, got)
				}
			case 5:
				handle := r.Intn(m.last+3) - 1
				at, has := w.Time(handle)
				if want, wants := m.time(handle); at != want || has != wants {
					t.Fatal(seed, handle, at, has)
				}
			default:
				to := some(r, m.now)
				if r.Intn(4) > 0 {
					// Most steps are short, so that much is to come.
					to = m.now + r.Intn(1+lengths[r.Intn(4)])
				}
				expect(t, w, to, m.advance(to)...)
			}
			check(t, w, m)
		}
		checkTimes(t, w, m)
	}
}

// What is told may be changed without changing the wheel.
func TestAnswersAreNew(t *testing.T) {
	w, m := wheel.New(0), newModel(0)
	for i := range 500 {
		w.Add(i * i)
		m.add(i * i)
	}
	for _, to := range []int{0, 63, 64, 100, 4095, 4096, 100000, 262143, 262144, most} {
		got := w.Advance(to)
		if !slices.Equal(got, m.advance(to)) {
			t.Fatal(to, got)
		}
		got = got[:cap(got)]
		for i := range got {
			got[i] = -1
		}
		check(t, w, m)
		checkTimes(t, w, m)
	}
}

// However far the times are apart, each one is told alone; and going on ends soon, however far it goes.
func TestFar(t *testing.T) {
	w := wheel.New(0)
	for i := range full {
		w.Add(i * turn * 1000)
	}
	for i := range full {
		expect(t, w, i*turn*1000, i+1)
	}
	for range 10000 {
		expect(t, wheel.New(0), most)
	}
}
