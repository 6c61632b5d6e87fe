package budget_test

import (
	"math"
	"math/rand"
	"slices"
	"strconv"
	"strings"
	"testing"

	"hourglass/api"
	"hourglass/budget"
)

// The limits are written out, so that a test tells when they are taken wrongly.
const (
	most   = 1 << 50
	milli  = 1000
	sec    = 1000000
	minute = 60000000
	hour   = 3600000000
	full   = 99999999
)

// numbers are ordinary ones, the edges with their neighbours, and numbers out of range.
func numbers() []int {
	return []int{
		math.MinInt, math.MinInt + 1, -most - 1, -most, -full, -7, -2, -1,
		0, 1, 2, 3, 5, 9, 10, 11, 100, 110, 999, milli, milli + 1, sec,
		full - 1, full, full + 1, full + 2, full + milli, 200000999, full * milli, (full + 1) * milli, full*sec + 5, (full + 1) * sec,
		most / 2, most - full - 1, most - full, most - 7, most - 1, most, most + 1, 2 * most, math.MaxInt - 1, math.MaxInt,
	}
}

// units are those that a timeout is told in, from the finest one on, each with its ticks.
func units() []int { return []int{1, milli, sec, minute, hour} }

// names are the units' letters, in the same order.
const names = "umSMH"

// time is the nearest one that may be.
func time(n int) int {
	switch {
	case n < 0:
		return 0
	case n > most:
		return most
	}
	return n
}

// left is how long it is from a time to another one.
func left(deadline, now int) int {
	deadline, now = time(deadline), time(now)
	if now > deadline {
		return 0
	}
	return deadline - now
}

// unit is the place of the first unit in which a span has at most eight digits.
func unit(span int) int {
	for i, ticks := range units() {
		if span/ticks <= full {
			return i
		}
	}
	return len(names)
}

// next is the deadline of the next node: what is left, without the part of a unit that is not whole.
func next(deadline, now int) int {
	span := left(deadline, now)
	return time(now) + span - span%units()[unit(span)]
}

func expectDeadline(t *testing.T, stamp int, s string, want int) {
	t.Helper()
	if got, e := budget.Deadline(stamp, s); e != api.OK || got != want {
		t.Errorf("Deadline(%d, %q) = %d, %v, not %d", stamp, s, got, e, want)
	}
}

// 14.1: a deadline is the stamp, and the span that is told.
func TestDeadline(t *testing.T) {
	for _, l := range []struct {
		stamp int
		s     string
		want  int
	}{
		{5, "2m", 2005}, {10, "100u", 110}, {0, "0u", 0}, {7, "0H", 7}, {7, "00000000S", 7}, {7, "00000003u", 10},
		{0, "1u", 1}, {1, "1u", 2}, {100, "3S", 3000100}, {100, "3M", 180000100}, {100, "3H", 10800000100},
		{100, "99999999u", 100000099}, {100, "99999999m", 99999999100}, {100, "99999999S", 99999999000100},
		{5, "999n", 5}, {5, "1000n", 6}, {5, "1999n", 6}, {5, "2000n", 7}, {5, "99999999n", 100004},
	} {
		expectDeadline(t, l.stamp, l.s, l.want)
	}
}

// 14.1: the stamp is the nearest time, and the deadline is the greatest one at most.
func TestDeadlineAtTheEdges(t *testing.T) {
	for _, stamp := range numbers() {
		expectDeadline(t, stamp, "0u", time(stamp))
		expectDeadline(t, stamp, "1u", min(time(stamp)+1, most))
		expectDeadline(t, stamp, "7m", min(time(stamp)+7*milli, most))
		expectDeadline(t, stamp, "99999999S", min(time(stamp)+full*sec, most))
		expectDeadline(t, stamp, "99999999M", most)
		expectDeadline(t, stamp, "99999999H", most)
	}
	for _, l := range []struct {
		stamp int
		s     string
		want  int
	}{
		{most, "5u", most}, {most - 1, "1u", most}, {most - 2, "1u", most - 1}, {most - 1, "2u", most},
		{-5, "3u", 3}, {math.MinInt, "3u", 3}, {math.MaxInt, "3u", most}, {0, "18764998M", 18764998 * minute}, {0, "18764999M", most},
		{most - 18764998*minute, "18764998M", most}, {most - 18764998*minute - 1, "18764998M", most - 1},
	} {
		expectDeadline(t, l.stamp, l.s, l.want)
	}
}

// 14.1: what is no timeout is 0, and the error that it has as one, whatever the stamp is.
func TestDeadlineRefused(t *testing.T) {
	for _, l := range []struct {
		s    string
		want api.Errno
	}{
		{"", api.ErrSize}, {"2", api.ErrSize}, {"u", api.ErrSize}, {"x", api.ErrSize}, {"\x00", api.ErrSize},
		{"123456789u", api.ErrSize}, {"000000001u", api.ErrSize}, {"1234567890", api.ErrSize}, {strings.Repeat("x", 10), api.ErrSize},
		{strings.Repeat("9", 1000) + "u", api.ErrSize},
		{"22", api.ErrForm}, {"2x", api.ErrForm}, {"uu", api.ErrForm}, {"-1u", api.ErrForm}, {"+1u", api.ErrForm}, {" 1u", api.ErrForm},
		{"1 u", api.ErrForm}, {"1u ", api.ErrForm}, {"1U", api.ErrForm}, {"1s", api.ErrForm}, {"1h", api.ErrForm}, {"1N", api.ErrForm},
		{"1.5S", api.ErrForm}, {"123456789", api.ErrForm}, {"1\xff", api.ErrForm}, {"\x001u", api.ErrForm}, {"12345678\x00", api.ErrForm},
	} {
		for _, stamp := range numbers() {
			if got, e := budget.Deadline(stamp, l.s); e != l.want || got != 0 {
				t.Errorf("Deadline(%d, %q) = %d, %v, not 0, %v", stamp, l.s, got, e, l.want)
			}
		}
	}
}

// 14.1: what is left is how far the deadline is behind now; nothing, if it is not.
func TestLeft(t *testing.T) {
	for _, l := range [][3]int{
		{10, 4, 6}, {4, 10, 0}, {10, 10, 0}, {10, 9, 1}, {9, 10, 0}, {110, 10, 100}, {0, 0, 0}, {5, -5, 5}, {-5, -9, 0}, {-5, 5, 0},
		{most, 0, most}, {most + 5, 0, most}, {most, most, 0}, {math.MaxInt, most, 0}, {math.MaxInt, math.MinInt, most},
		{math.MaxInt, most - 3, 3}, {math.MinInt, math.MaxInt, 0}, {0, most, 0}, {most, -1, most}, {2 * most, most - 1, 1},
	} {
		if got := budget.Left(l[0], l[1]); got != l[2] {
			t.Errorf("Left(%d, %d) = %d, not %d", l[0], l[1], got, l[2])
		}
	}
	for _, deadline := range numbers() {
		for _, now := range numbers() {
			if got, want := budget.Left(deadline, now), left(deadline, now); got != want {
				t.Errorf("Left(%d, %d) = %d, not %d", deadline, now, got, want)
			}
		}
	}
}

// 14.1: enough is something, and no less than the least.
func TestEnough(t *testing.T) {
	for _, l := range []struct {
		deadline, now, least int
		want                 bool
	}{
		{10, 10, 0, false}, {10, 9, 1, true}, {10, 9, 2, false}, {10, 9, 0, true}, {10, 11, 0, false}, {10, 11, -1, false}, {10, 10, -1, false},
		{10, 10, math.MinInt, false}, {10, 9, math.MinInt, true}, {10, 4, 5, true}, {10, 4, 6, true}, {10, 4, 7, false}, {10, 10, 1, false},
		{0, 0, 0, false}, {-1, -2, 0, false}, {-1, -2, 1, false}, {1, -2, 1, true}, {1, -2, 2, false}, {5, -5, 6, false},
		{most, 0, most, true}, {most, 1, most, false}, {most, 1, most - 1, true}, {most, most, 0, false}, {math.MaxInt, most, 0, false},
		{math.MaxInt, most - 1, 1, true}, {math.MaxInt, most - 1, 2, false}, {math.MaxInt, math.MinInt, most, true},
		// The least is a span too: past the greatest one it stands for that one.
		{most, 0, most + 1, true}, {most, 0, math.MaxInt, true}, {most, 1, most + 1, false}, {most - 1, 0, math.MaxInt, false},
	} {
		if got := budget.Enough(l.deadline, l.now, l.least); got != l.want {
			t.Errorf("Enough(%d, %d, %d) = %t", l.deadline, l.now, l.least, got)
		}
	}
	for _, deadline := range numbers() {
		for _, now := range numbers() {
			for _, least := range numbers() {
				span := left(deadline, now)
				if got, want := budget.Enough(deadline, now, least), span > 0 && span >= time(least); got != want {
					t.Errorf("Enough(%d, %d, %d) = %t", deadline, now, least, got)
				}
			}
		}
	}
}

// 14.1: of small numbers one by one.
func TestSmallNumbers(t *testing.T) {
	for deadline := range 30 {
		for now := range 30 {
			enough := 0
			for least := range 31 {
				if budget.Enough(deadline, now, least) {
					enough = least
				}
			}
			if got := budget.Left(deadline, now); got != max(0, deadline-now) || enough != got || budget.Enough(deadline, now, 0) != (got > 0) {
				t.Errorf("Left(%d, %d) = %d, and enough for %d", deadline, now, got, enough)
			}
			if got := budget.Next(deadline, now); got != max(deadline, now) {
				t.Errorf("Next(%d, %d) = %d", deadline, now, got)
			}
		}
	}
}

// 14.2: the next node is told what is left, in the finest unit that does, cut off.
func TestHop(t *testing.T) {
	for _, l := range []struct {
		deadline, now int
		want          string
	}{
		{110, 10, "100u"}, {10, 4, "6u"}, {10, 10, "0u"}, {4, 10, "0u"}, {0, 0, "0u"}, {-1, 5, "0u"}, {5, -1, "5u"},
		{full, 0, "99999999u"}, {full + 1, 0, "100000m"}, {full + 1, 1, "99999999u"}, {full + 1000, 0, "100000m"}, {full + 1001, 0, "100001m"},
		{200000999, 0, "200000m"}, {200000999, 7, "200000m"}, {200000999, 1000, "199999m"},
		{full*milli + 999, 0, "99999999m"}, {(full + 1) * milli, 0, "100000S"}, {(full+1)*milli + sec - 1, 0, "100000S"},
		{full*sec + sec - 1, 0, "99999999S"}, {(full + 1) * sec, 0, "1666666M"},
		{most, 0, "18764998M"}, {math.MaxInt, math.MinInt, "18764998M"}, {most, most, "0u"}, {math.MaxInt, most - 7, "7u"}, {math.MinInt, math.MaxInt, "0u"},
	} {
		if got := budget.Hop(l.deadline, l.now); got != l.want {
			t.Errorf("Hop(%d, %d) = %q, not %q", l.deadline, l.now, got, l.want)
		}
	}
}

// 14.2: the next node's deadline is that of now, and of what it is told.
func TestNext(t *testing.T) {
	for _, l := range [][3]int{
		{200000999, 0, 200000000}, {full, 5, full}, {5, 9, 9}, {110, 10, 110}, {10, 10, 10}, {0, 0, 0}, {-3, -5, 0}, {-3, 4, 4}, {4, -3, 4},
		{full + 1, 0, full + 1}, {full + 2, 0, full + 1}, {full + 2, 1, full + 2}, {full + 2, 2, full + 2}, {full + 3, 1, full + 2},
		{200000999, 7, 200000007}, {200000999, 999, 200000999}, {200000999, 1000, 200000000},
		{full*milli + 999, 0, full * milli}, {full*milli + 999, 5, full*milli + 5}, {(full+1)*milli + sec - 1, 0, (full + 1) * milli},
		{full*sec + sec - 1, 3, full*sec + 3}, {(full + 1) * sec, 0, 1666666 * minute},
		{most, 0, 18764998 * minute}, {math.MaxInt, math.MinInt, 18764998 * minute}, {most, 24, 18764998*minute + 24},
		{most, most, most}, {math.MaxInt, most - 7, most}, {5, math.MaxInt, most}, {math.MinInt, most, most}, {most, most - full, most},
	} {
		if got := budget.Next(l[0], l[1]); got != l[2] {
			t.Errorf("Next(%d, %d) = %d, not %d", l[0], l[1], got, l[2])
		}
	}
}

// 14.2: Hop and Next are what the rule makes of any two of the numbers, and near them.
func TestAsTheRule(t *testing.T) {
	r := rand.New(rand.NewSource(14))
	for _, deadline := range numbers() {
		for _, now := range numbers() {
			expectRule(t, deadline, now)
			for range 40 {
				// Of the nearest times, as the sum of such a number and another one might not fit an int.
				expectRule(t, time(deadline)+r.Intn(2*hour)-hour, time(now)+r.Intn(2*sec)-sec)
			}
		}
	}
}

func expectRule(t *testing.T, deadline, now int) {
	t.Helper()
	span := left(deadline, now)
	i := unit(span)
	want := strconv.Itoa(span/units()[i]) + names[i:i+1]
	if got := budget.Hop(deadline, now); got != want {
		t.Errorf("Hop(%d, %d) = %q, not %q", deadline, now, got, want)
	}
	if got := budget.Next(deadline, now); got != next(deadline, now) {
		t.Errorf("Next(%d, %d) = %d, not %d", deadline, now, got, next(deadline, now))
	}
	if got, e := budget.Deadline(now, want); e != api.OK || got != next(deadline, now) {
		t.Errorf("Deadline(%d, %q) = %d, %v, not %d", now, want, got, e, next(deadline, now))
	}
}

// 14.2: without a hop a chain is the deadline, as the time that it stands for.
func TestChainOfNone(t *testing.T) {
	for _, deadline := range numbers() {
		for _, nows := range [][]int{nil, {}, make([]int, 0, 5)} {
			if got := budget.Chain(deadline, nows); got != time(deadline) {
				t.Errorf("Chain(%d) = %d, not %d", deadline, got, time(deadline))
			}
		}
	}
}

// 14.2: the hops of a chain go one behind the other, each from the deadline that the one ahead had.
func TestChain(t *testing.T) {
	for _, l := range []struct {
		deadline int
		nows     []int
		want     int
	}{
		{100, []int{10, 50, 99}, 100}, {100, []int{100}, 100}, {100, []int{101}, 101}, {100, []int{101, 50}, 101}, {100, []int{50, 101, 20, 103}, 103},
		{200000999, []int{0}, 200000000}, {200000999, []int{0, 7}, 199999007}, {200000999, []int{7, 0}, 200000000}, {200000999, []int{0, 0, 0}, 200000000},
		{200000999, []int{7, 8, 9}, 199998009}, {most, []int{0, 1, 2}, 18764996*minute + 2}, {-5, []int{0}, 0}, {-5, []int{-7, -9}, 0}, {-5, []int{3, 2}, 3},
		{5, []int{math.MaxInt}, most}, {5, []int{math.MaxInt, 0}, 18764998 * minute}, {math.MaxInt, []int{most}, most}, {math.MinInt, []int{math.MinInt}, 0},
	} {
		if got := budget.Chain(l.deadline, l.nows); got != l.want {
			t.Errorf("Chain(%d, %v) = %d, not %d", l.deadline, l.nows, got, l.want)
		}
	}
	r := rand.New(rand.NewSource(2))
	all := numbers()
	for range 20000 {
		deadline, nows := all[r.Intn(len(all))], []int(nil)
		want := time(deadline)
		for range r.Intn(12) {
			nows = append(nows, all[r.Intn(len(all))])
			want = next(want, nows[len(nows)-1])
		}
		if got := budget.Chain(deadline, nows); got != want {
			t.Fatalf("Chain(%d, %v) = %d, not %d", deadline, nows, got, want)
		}
	}
}

// R4: the times that were handed in stay, and what lies behind the list's length is not asked.
func TestChainLeavesItsTimes(t *testing.T) {
	nows := []int{-5, 7, math.MaxInt, 3}
	kept := slices.Clone(nows)
	if got := budget.Chain(200000999, nows[:2]); got != 199999007 {
		t.Errorf("Chain = %d", got)
	}
	budget.Chain(5, nows)
	if !slices.Equal(nows, kept) {
		t.Errorf("%v, not %v", nows, kept)
	}
}

// 14.2: there may be many hops.
func TestChainOfMany(t *testing.T) {
	nows := make([]int, 200000)
	for i := range nows {
		nows[i] = i
	}
	if got := budget.Chain(full, nows); got != full {
		t.Errorf("Chain = %d", got)
	}
	// Each hop may cut something off, yet none goes behind its own time.
	if got := budget.Chain(most, nows); got > most || got < nows[len(nows)-1] {
		t.Errorf("Chain = %d", got)
	}
}

// 14.3: the next node's deadline is not behind this one's, unless now is.
func TestNeverGrows(t *testing.T) {
	for _, deadline := range numbers() {
		for _, now := range numbers() {
			got := budget.Next(deadline, now)
			if got > max(time(deadline), time(now)) || got < time(now) {
				t.Errorf("Next(%d, %d) = %d", deadline, now, got)
			}
			if again := budget.Next(got, now); again != got {
				t.Errorf("Next(%d, %d) = %d, behind the same from %d", got, now, again, deadline)
			}
			if span := left(deadline, now); span <= full && got != max(time(deadline), time(now)) {
				t.Errorf("Next(%d, %d) = %d, of %d alone", deadline, now, got, span)
			}
		}
	}
}

// 14.3: behind hops, each not past its deadline, it is not behind the first one; of at most eight digits of ticks it is the same.
func TestChainNeverGrows(t *testing.T) {
	r := rand.New(rand.NewSource(3))
	for _, first := range numbers() {
		for range 500 {
			deadline, now, nows := time(first), 0, []int(nil)
			// Some begin late, so that no more ticks are left than eight digits tell.
			small := r.Intn(2) == 0
			if small {
				now = max(0, deadline-r.Intn(full+1))
			}
			for range 1 + r.Intn(16) {
				now += r.Intn(min(deadline-now, 1<<r.Intn(50)) + 1)
				nows = append(nows, now)
				deadline = budget.Next(deadline, now)
				if now > deadline {
					t.Fatalf("of %d Next at %v = %d", first, nows, deadline)
				}
			}
			got := budget.Chain(first, nows)
			if got > time(first) || got != deadline {
				t.Fatalf("Chain(%d, %v) = %d, and %d one by one", first, nows, got, deadline)
			}
			if small && got != time(first) {
				t.Fatalf("Chain(%d, %v) = %d", first, nows, got)
			}
		}
	}
}

// The chapter's example.
func TestExample(t *testing.T) {
	if got := budget.Hop(110, 10); got != "100u" {
		t.Errorf("Hop(110, 10) = %q", got)
	}
}
