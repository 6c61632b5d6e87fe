package seen_test

import (
	"math"
	"math/rand"
	"testing"

	"hourglass/api"
	"hourglass/seen"
)

// The limits, written out, so that a test tells when they are taken wrongly.
const (
	tick = 1 << 50
	full = 512
)

// key is one of many that differ in their numbers alone.
func key(n int) api.Key {
	return api.Key{Id: api.Id{Node: 3, Seq: n}, Att: 1}
}

// time is the nearest one that may be.
func time(n int) int {
	switch {
	case n < 0:
		return 0
	case n > tick:
		return tick
	}
	return n
}

// times are ordinary ones, the edges with their neighbours, and numbers out of range.
func times() []int {
	return []int{
		math.MinInt, math.MinInt + 1, -tick - 1, -1000, -3, -2, -1, 0, 1, 2, 5, 9, 10, 11, 1000,
		tick - 2, tick - 1, tick, tick + 1, tick + 2, math.MaxInt - 1, math.MaxInt,
	}
}

// entry is a key of the model, which goes through all that it has, one by one.
type entry struct {
	k     api.Key
	until int
}

type model []entry

func (m model) has(k api.Key) bool {
	for _, e := range m {
		if e.k == k {
			return true
		}
	}
	return false
}

func (m *model) mark(k api.Key, until, now int) bool {
	var left model
	for _, e := range *m {
		if e.until > time(now) {
			left = append(left, e)
		}
	}
	*m = left
	if left.has(k) || time(until) <= time(now) || len(left) >= full {
		return false
	}
	*m = append(left, entry{k, time(until)})
	return true
}

func expectMark(t *testing.T, s *seen.Seen, k api.Key, until, now int, want bool) {
	t.Helper()
	if got := s.Mark(k, until, now); got != want {
		t.Fatalf("Mark(%v, %d, %d) = %t", k, until, now, got)
	}
}

func expectHas(t *testing.T, s *seen.Seen, want bool, keys ...api.Key) {
	t.Helper()
	for _, k := range keys {
		if got := s.Has(k); got != want {
			t.Fatalf("Has(%v) = %t", k, got)
		}
	}
}

func expectLen(t *testing.T, s *seen.Seen, want int) {
	t.Helper()
	if got := s.Len(); got != want {
		t.Fatalf("%d keys, not %d", got, want)
	}
}

// filled makes one that keeps as many keys as there may be, from 0 on, each up to the time that is told of its number.
func filled(t *testing.T, until func(n int) int) *seen.Seen {
	t.Helper()
	s := seen.New()
	for n := range full {
		expectLen(t, s, n)
		expectMark(t, s, key(n), until(n), 0, true)
	}
	expectLen(t, s, full)
	return s
}

// 16.1: so many may be kept.
func TestMost(t *testing.T) {
	if seen.Most != full {
		t.Errorf("Most is %d", seen.Most)
	}
}

// 16.1: a new one keeps nothing, and shares nothing with another one.
func TestNew(t *testing.T) {
	s, other := seen.New(), seen.New()
	expectLen(t, s, 0)
	expectHas(t, s, false, api.Key{}, key(1), key(-1))
	expectMark(t, s, key(1), 10, 5, true)
	expectHas(t, other, false, key(1))
	expectLen(t, other, 0)
	expectMark(t, other, key(1), 10, 5, true)
	expectMark(t, other, key(2), 10, 5, true)
	expectLen(t, s, 1)
}

// Nil ones, and such as New did not make, saw all, keep nothing, and stay so.
func TestNotMade(t *testing.T) {
	var zero seen.Seen
	other := seen.New()
	expectMark(t, other, key(1), 10, 5, true)
	copied := *other
	for name, s := range map[string]*seen.Seen{"nil": nil, "zero": &zero, "new": new(seen.Seen), "copied": &copied} {
		for range 3 {
			for _, k := range []api.Key{{}, key(1), key(2), key(-1)} {
				for _, until := range times() {
					for _, now := range times() {
						if s.Mark(k, until, now) {
							t.Fatalf("%s: Mark(%v, %d, %d) is true", name, k, until, now)
						}
					}
				}
				if !s.Has(k) || s.Len() != 0 {
					t.Fatalf("%s: Has(%v) = %t, of %d", name, k, s.Has(k), s.Len())
				}
			}
		}
	}
	// The one that was copied goes on as if nobody had.
	expectLen(t, other, 1)
	expectHas(t, other, true, key(1))
	expectHas(t, other, false, key(2))
}

// 16.1: a key is kept up to its time, which tells nothing of another one.
func TestMark(t *testing.T) {
	s := seen.New()
	expectMark(t, s, key(1), 20, 5, true)
	expectMark(t, s, key(2), 10, 5, true)
	expectHas(t, s, true, key(1), key(2))
	expectHas(t, s, false, key(0), key(3))
	expectLen(t, s, 2)
	expectMark(t, s, key(1), 20, 5, false)
	expectMark(t, s, key(2), 10, 9, false)
	expectMark(t, s, key(3), 30, 9, true)
	expectLen(t, s, 3)
	expectMark(t, s, key(4), 30, 10, true)
	expectHas(t, s, true, key(1), key(3), key(4))
	expectHas(t, s, false, key(2))
	expectMark(t, s, key(2), 12, 10, true)
	expectMark(t, s, key(1), 20, 19, false)
	expectMark(t, s, key(1), 21, 20, true)
	expectLen(t, s, 3)
	expectMark(t, s, key(5), 31, 30, true)
	expectLen(t, s, 1)
}

// 16.1: until must be above now, of all numbers, as Clamp makes of them.
func TestMarkAtTheEdges(t *testing.T) {
	for _, until := range times() {
		for _, now := range times() {
			s := seen.New()
			matters := time(until) > time(now)
			expectMark(t, s, key(1), until, now, matters)
			expectHas(t, s, matters, key(1))
			expectMark(t, s, key(1), until, now, false)
			for _, later := range times() {
				if time(later) < time(now) {
					continue
				}
				v := seen.New()
				expectMark(t, v, key(1), until, now, matters)
				// A mark that matters to nobody goes on to a time, and no more.
				expectMark(t, v, key(2), later, later, false)
				expectHas(t, v, matters && time(until) > time(later), key(1))
			}
		}
	}
}

// 16.1: numbers that stand for no time: none is ahead of 0, none behind the greatest one.
func TestMarkOutOfRange(t *testing.T) {
	s := seen.New()
	expectMark(t, s, key(1), 0, -1, false)
	expectMark(t, s, key(1), -3, -5, false)
	expectMark(t, s, key(1), math.MaxInt, tick, false)
	expectMark(t, s, key(1), tick+2, tick+1, false)
	expectLen(t, s, 0)
	expectMark(t, s, key(1), 1, math.MinInt, true)
	expectMark(t, s, key(2), math.MaxInt, 0, true)
	expectMark(t, s, key(3), tick, tick-1, true)
	expectLen(t, s, 2)
	expectMark(t, s, key(2), math.MaxInt, tick-1, false)
	expectMark(t, s, key(2), math.MaxInt, tick, false)
	expectLen(t, s, 0)
}

// 16.1: who is kept stays up to the time that was told first, neither shorter nor longer.
func TestMarkAgainChangesNothing(t *testing.T) {
	s := seen.New()
	expectMark(t, s, key(1), 20, 5, true)
	expectMark(t, s, key(1), 99, 9, false)
	expectMark(t, s, key(1), 10, 9, false)
	expectMark(t, s, key(1), 9, 9, false)
	expectMark(t, s, key(1), -5, 9, false)
	expectMark(t, s, key(2), 11, 10, true)
	expectHas(t, s, true, key(1))
	expectMark(t, s, key(2), 20, 19, true)
	expectHas(t, s, true, key(1))
	expectLen(t, s, 2)
	expectMark(t, s, key(3), 0, 20, false)
	expectHas(t, s, false, key(1))
	expectLen(t, s, 0)
}

// 16.1: what is gone is forgotten by each mark, whatever it answers; by nothing else.
func TestForgotten(t *testing.T) {
	for name, last := range map[string]entry{"matters": {key(9), 11}, "gone": {key(9), 10}, "kept": {key(2), 50}, "itself": {key(1), 10}} {
		s := seen.New()
		expectMark(t, s, key(1), 10, 5, true)
		expectMark(t, s, key(2), 20, 5, true)
		expectMark(t, s, key(3), 9, 8, true)
		expectMark(t, s, key(4), 11, 9, true)
		// The third one went at 9; the first one is there until a mark goes on to its time.
		for range 3 {
			expectHas(t, s, true, key(1), key(2), key(4))
			expectHas(t, s, false, key(3))
			expectLen(t, s, 3)
		}
		s.Mark(last.k, last.until, 10)
		expectHas(t, s, true, key(2), key(4))
		expectHas(t, s, false, key(1), key(3))
		if s.Has(key(9)) != (name == "matters") {
			t.Error(name)
		}
	}
}

// 16.1: it may be marked at an earlier time again; who was forgotten stays so.
func TestMarkBackwards(t *testing.T) {
	s := seen.New()
	expectMark(t, s, key(1), 10, 5, true)
	expectMark(t, s, key(2), 20, 15, true)
	expectHas(t, s, false, key(1))
	expectMark(t, s, key(3), 4, 3, true)
	expectHas(t, s, true, key(2), key(3))
	expectMark(t, s, key(1), 10, 3, true)
	expectMark(t, s, key(1), 10, 3, false)
	expectLen(t, s, 3)
}

// 16.1: any keys may be kept; they are told by each of their parts.
func TestKeys(t *testing.T) {
	var keys []api.Key
	for _, n := range []int{0, 1, -1, 64, math.MinInt, math.MaxInt} {
		for part := range 4 {
			k := [4]int{2, 2, 2, 2}
			k[part] = n
			keys = append(keys, api.Key{Id: api.Id{Node: k[0], Inc: k[1], Seq: k[2]}, Att: k[3]})
		}
	}
	keys = append(keys, api.Key{})
	s := seen.New()
	for i, k := range keys {
		expectHas(t, s, false, keys[i:]...)
		expectMark(t, s, k, 10, 5, true)
		expectHas(t, s, true, keys[:i+1]...)
		expectMark(t, s, k, 10, 5, false)
		expectLen(t, s, i+1)
	}
}

// 16.1: with so many kept there is no room, neither for a new one nor by who is marked again.
func TestFull(t *testing.T) {
	s := filled(t, func(n int) int { return 10 + n })
	for _, until := range []int{math.MinInt, 1, 10, 100, tick, math.MaxInt} {
		expectMark(t, s, key(full), until, 9, false)
		expectMark(t, s, key(0), until, 9, false)
		expectMark(t, s, key(full-1), until, 9, false)
		expectLen(t, s, full)
	}
	expectHas(t, s, false, key(full))
	expectHas(t, s, true, key(0), key(1), key(full-1))
	// The first one goes at 10, and leaves room for one alone.
	expectMark(t, s, key(full), 1000, 10, true)
	expectMark(t, s, key(full+1), 1000, 10, false)
	expectMark(t, s, key(0), 1000, 10, false)
	expectHas(t, s, true, key(full), key(1))
	expectHas(t, s, false, key(full+1), key(0))
	expectLen(t, s, full)
	expectMark(t, s, key(0), 1000, 12, true)
	expectLen(t, s, full-1)
	expectMark(t, s, key(full+1), 1000, 12, true)
	expectMark(t, s, key(full+2), 1000, 12, false)
	expectLen(t, s, full)
}

// 16.1: a full one may be forgotten whole, and filled anew.
func TestFullAnew(t *testing.T) {
	s := filled(t, func(int) int { return 10 })
	for turn := 1; turn < 20; turn++ {
		expectMark(t, s, key(full), 10*turn+10, 10*turn-1, false)
		expectMark(t, s, key(full), 0, 10*turn, false)
		expectLen(t, s, 0)
		for n := range full {
			expectMark(t, s, key(n), 10*turn+10, 10*turn, true)
		}
		expectLen(t, s, full)
	}
}

// play marks at random, and holds all that is told against the model.
func play(t *testing.T, r *rand.Rand, keys, spans, steps int, back bool) {
	t.Helper()
	s, now := seen.New(), 0
	var m model
	for range steps {
		now += r.Intn(3)
		if back && r.Intn(4) == 0 {
			now -= r.Intn(9)
		}
		k, until := key(r.Intn(keys)), now+r.Intn(spans)-2
		expectMark(t, s, k, until, now, m.mark(k, until, now))
		expectLen(t, s, len(m))
		for _, asked := range []api.Key{k, key(r.Intn(keys))} {
			expectHas(t, s, m.has(asked), asked)
		}
		if r.Intn(50) == 0 {
			for n := range keys {
				expectHas(t, s, m.has(key(n)), key(n))
			}
		}
	}
}

// 16.1: whatever is marked, forwards and backwards, with few keys and with more than there is room for.
func TestAgainstModel(t *testing.T) {
	r := rand.New(rand.NewSource(16))
	for _, back := range []bool{false, true} {
		for range 200 {
			play(t, r, 6, 12, 200, back)
		}
		play(t, r, 2*full, 4*full, 8*full, back)
		play(t, r, 4*full, 1<<40, 4*full, back)
	}
}

// 16.1: of few keys and small times, all that three marks can come to.
func TestScripts(t *testing.T) {
	type step struct{ n, until, now int }
	var steps []step
	for n := range 2 {
		for until := range 5 {
			for now := range 5 {
				steps = append(steps, step{n, until - 1, now - 1})
			}
		}
	}
	for _, a := range steps {
		for _, b := range steps {
			for _, c := range steps {
				s := seen.New()
				var m model
				for _, x := range []step{a, b, c} {
					expectMark(t, s, key(x.n), x.until, x.now, m.mark(key(x.n), x.until, x.now))
					expectLen(t, s, len(m))
					for n := range 2 {
						expectHas(t, s, m.has(key(n)), key(n))
					}
				}
			}
		}
	}
}

// 16.2: while now does not go back, marks of one key with the same until tell true once at the most, whatever was marked meanwhile.
func TestOnceAtMost(t *testing.T) {
	r := rand.New(rand.NewSource(2))
	for _, l := range [][2]int{{3, 200}, {20, 60}, {2 * full, 2}} {
		keys := l[0]
		for range l[1] {
			s, now, first := seen.New(), 0, map[entry]int{}
			for range 40 * keys {
				now += r.Intn(2) * r.Intn(2)
				e := entry{key(r.Intn(keys)), now + r.Intn(5) - 1}
				if keys > full {
					e.until = now/full*full + full
				}
				if s.Mark(e.k, e.until, now) {
					first[e]++
				}
				if first[e] > 1 {
					t.Fatalf("%v was seen for the first time %d times", e, first[e])
				}
			}
			if len(first) < keys {
				t.Fatalf("of %d keys %d were seen", keys, len(first))
			}
		}
	}
}

// 16.2: others that come and go, as many as there may be, do not make a key forgotten that matters.
func TestStaysAsLongAsItMatters(t *testing.T) {
	s := seen.New()
	expectMark(t, s, key(0), 1000, 0, true)
	for now := range 1200 {
		expectMark(t, s, key(0), 1000, now, false)
		for n := range 20 {
			s.Mark(key(1+20*now+n), now+1+n*3, now)
		}
		expectHas(t, s, now < 1000, key(0))
	}
}

// The chapter's example.
func TestExample(t *testing.T) {
	s := seen.New()
	expectMark(t, s, key(1), 10, 5, true)
	expectMark(t, s, key(1), 10, 6, false)
	expectMark(t, s, key(1), 10, 10, false)
}
