package lease_test

import (
	"math"
	"math/rand"
	"slices"
	"testing"

	"hourglass/lease"
)

// The limit and the codes are written out, so that a test tells when they are taken wrongly.
const (
	most      = 1 << 50
	cancelled = 1
	deadlined = 4
)

// numbers are ordinary ones, the edges with their neighbours, and numbers out of range.
func numbers() []int {
	return []int{
		math.MinInt, math.MinInt + 1, -most - 1, -most, -1000, -7, -2, -1,
		0, 1, 2, 3, 5, 10, 12, 14, 15, 20, 1000, 1 << 31,
		most / 2, most - 7, most - 2, most - 1, most, most + 1, most + 2, 2 * most, math.MaxInt - 1, math.MaxInt,
	}
}

// time is the nearest one that may be.
func time(n int) int {
	switch {
	case n < 0:
		return 0
	case n > most:
		return most
	}
	return n
}

// sum is a time behind another one, the greatest one at most.
func sum(a, b int) int { return time(time(a) + time(b)) }

// least is the least one of a time, and of those that a list stands for.
func least(t int, list []int) int {
	for _, n := range list {
		if time(n) < t {
			t = time(n)
		}
	}
	return t
}

func expect(t *testing.T, call string, got, want int, of ...int) {
	t.Helper()
	if got != want {
		t.Errorf("%s of %v = %d, not %d", call, of, got, want)
	}
}

func expectOver(t *testing.T, now, deadline, until, code int) {
	t.Helper()
	got, over := lease.Over(now, deadline, until)
	if got != code || over != (code != 0) {
		t.Errorf("Over(%d, %d, %d) = %d, %t, not %d", now, deadline, until, got, over, code)
	}
}

// 15.1: a lease goes up to the span behind now, and no further than the greatest time.
func TestGrant(t *testing.T) {
	for _, l := range [][3]int{
		{10, 5, 15}, {0, 0, 0}, {10, 0, 10}, {0, 7, 7}, {-5, 7, 7}, {7, -5, 7}, {-5, -7, 0}, {math.MinInt, 3, 3}, {3, math.MinInt, 3},
		{most - 1, 1, most}, {most - 2, 1, most - 1}, {most, 0, most}, {most, 5, most}, {5, most, most}, {most + 5, -5, most},
		{most - 1, 2, most}, {math.MaxInt, math.MaxInt, most}, {math.MaxInt, math.MinInt, most}, {math.MinInt, math.MinInt, 0},
	} {
		expect(t, "Grant", lease.Grant(l[0], l[1]), l[2], l[0], l[1])
	}
	for _, now := range numbers() {
		for _, span := range numbers() {
			expect(t, "Grant", lease.Grant(now, span), sum(now, span), now, span)
		}
	}
}

// 15.1: of what somebody has, and what is heard, the greater one.
func TestRaise(t *testing.T) {
	for _, l := range [][3]int{
		{5, 3, 5}, {3, 5, 5}, {5, 5, 5}, {0, 0, 0}, {0, 1, 1}, {1, 0, 1}, {-5, -3, 0}, {-3, 2, 2}, {2, -3, 2},
		{most, most + 1, most}, {most + 1, most, most}, {most - 1, math.MaxInt, most}, {math.MaxInt, most - 1, most},
		{most - 1, most - 2, most - 1}, {math.MinInt, most - 1, most - 1}, {math.MinInt, math.MinInt, 0}, {math.MaxInt, math.MaxInt, most},
	} {
		expect(t, "Raise", lease.Raise(l[0], l[1]), l[2], l[0], l[1])
	}
	for _, until := range numbers() {
		for _, heard := range numbers() {
			want := time(until)
			if time(heard) > want {
				want = time(heard)
			}
			expect(t, "Raise", lease.Raise(until, heard), want, until, heard)
		}
	}
}

// 15.1: of the deadline and the lease, the lesser one.
func TestEnds(t *testing.T) {
	for _, l := range [][3]int{
		{5, 3, 3}, {3, 5, 3}, {5, 5, 5}, {0, 0, 0}, {0, 1, 0}, {1, 0, 0}, {-5, -3, 0}, {-3, 2, 0}, {2, -3, 0},
		{most, most + 1, most}, {most + 1, most, most}, {most - 1, math.MaxInt, most - 1}, {math.MaxInt, most - 1, most - 1},
		{math.MinInt, math.MaxInt, 0}, {math.MaxInt, math.MinInt, 0}, {math.MaxInt, math.MaxInt, most}, {math.MinInt, math.MinInt, 0},
	} {
		expect(t, "Ends", lease.Ends(l[0], l[1]), l[2], l[0], l[1])
	}
	for _, deadline := range numbers() {
		for _, until := range numbers() {
			expect(t, "Ends", lease.Ends(deadline, until), least(time(deadline), []int{until}), deadline, until)
		}
	}
}

// 15.1: the deadline is asked first, then the lease; each is over from its time on.
func TestOver(t *testing.T) {
	for _, l := range [][4]int{
		{5, 10, 20, 0}, {9, 10, 20, 0}, {10, 10, 20, deadlined}, {11, 10, 20, deadlined}, {20, 10, 20, deadlined}, {25, 10, 20, deadlined},
		{5, 20, 10, 0}, {9, 20, 10, 0}, {10, 20, 10, cancelled}, {11, 20, 10, cancelled}, {19, 20, 10, cancelled}, {20, 20, 10, deadlined},
		{9, 10, 10, 0}, {10, 10, 10, deadlined}, {0, 0, 0, deadlined}, {0, 1, 0, cancelled}, {0, 0, 1, deadlined}, {0, 1, 1, 0},
		// What is below 0 stands for 0, on all three sides.
		{-3, 5, 0, cancelled}, {-3, 5, -1, cancelled}, {-3, 0, 5, deadlined}, {-3, -2, 5, deadlined}, {-3, -2, -2, deadlined}, {-3, 1, 1, 0},
		{math.MinInt, math.MinInt + 1, 5, deadlined}, {math.MinInt, 5, math.MinInt + 1, cancelled}, {0, -1, -1, deadlined},
		// And what is past the greatest time for that one.
		{most - 1, most, most, 0}, {most, most, most, deadlined}, {most, most + 1, most + 1, deadlined}, {most, math.MaxInt, most - 1, deadlined},
		{most - 1, math.MaxInt, most - 1, cancelled}, {most - 1, math.MaxInt, math.MaxInt, 0}, {most - 2, most, most - 1, 0},
		{math.MaxInt - 1, math.MaxInt, math.MaxInt, deadlined}, {math.MaxInt, 5, math.MaxInt, deadlined}, {math.MinInt, math.MaxInt, math.MaxInt, 0},
	} {
		expectOver(t, l[0], l[1], l[2], l[3])
	}
	for _, now := range numbers() {
		for _, deadline := range numbers() {
			for _, until := range numbers() {
				code := 0
				if time(now) >= time(until) {
					code = cancelled
				}
				if time(now) >= time(deadline) {
					code = deadlined
				}
				expectOver(t, now, deadline, until, code)
			}
		}
	}
}

// 15.1: when nothing is heard of those between, it is what was granted.
func TestPassedOfNone(t *testing.T) {
	for _, now := range numbers() {
		for _, span := range numbers() {
			for _, heard := range [][]int{nil, {}, make([]int, 0, 5)} {
				expect(t, "Passed", lease.Passed(now, span, heard), sum(now, span), now, span)
			}
		}
	}
}

// 15.1: the least one of all, wherever it stands.
func TestPassed(t *testing.T) {
	for _, l := range []struct {
		now, span int
		heard     []int
		want      int
	}{
		{10, 5, []int{20, 12, 14}, 12}, {10, 5, []int{12, 20, 14}, 12}, {10, 5, []int{20, 14, 12}, 12}, {10, 5, []int{12, 12}, 12},
		{10, 5, []int{20}, 15}, {10, 5, []int{15}, 15}, {10, 5, []int{16}, 15}, {10, 5, []int{14}, 14}, {10, 5, []int{20, 30, 40}, 15},
		// A time that is gone already is the least one too, though the lease is granted now.
		{10, 5, []int{3}, 3}, {10, 5, []int{0}, 0}, {10, 5, []int{20, -1}, 0}, {10, 5, []int{math.MinInt, 20}, 0},
		{10, 0, []int{20}, 10}, {10, -5, []int{20, 11}, 10}, {-10, 5, []int{20, 6}, 5}, {-10, -5, []int{20, 1}, 0},
		{10, 5, []int{math.MaxInt}, 15}, {most, 5, []int{math.MaxInt, most + 1}, most}, {most, 5, []int{math.MaxInt, most - 1}, most - 1},
		{math.MaxInt, math.MaxInt, []int{math.MaxInt}, most}, {math.MinInt, math.MinInt, []int{math.MaxInt}, 0},
	} {
		expect(t, "Passed", lease.Passed(l.now, l.span, l.heard), l.want, append([]int{l.now, l.span}, l.heard...)...)
	}
	r := rand.New(rand.NewSource(15))
	all := numbers()
	for range 20000 {
		now, span, heard := all[r.Intn(len(all))], all[r.Intn(len(all))], []int(nil)
		for range r.Intn(12) {
			heard = append(heard, all[r.Intn(len(all))])
		}
		expect(t, "Passed", lease.Passed(now, span, heard), least(sum(now, span), heard), append([]int{now, span}, heard...)...)
	}
}

// R4: what was heard stays, and what lies behind the list's length is not asked.
func TestPassedLeavesWhatWasHeard(t *testing.T) {
	heard := []int{math.MaxInt, 12, -5, 3}
	kept := slices.Clone(heard)
	expect(t, "Passed", lease.Passed(10, 5, heard[:2]), 12, heard[:2]...)
	expect(t, "Passed", lease.Passed(10, 5, heard), 0, heard...)
	if !slices.Equal(heard, kept) {
		t.Errorf("%v, not %v", heard, kept)
	}
}

// 15.1: there may be many that pass it on.
func TestPassedOfMany(t *testing.T) {
	heard := make([]int, 200000)
	for i := range heard {
		heard[i] = 2*most - i
	}
	expect(t, "Passed", lease.Passed(10, most, heard), most)
	heard[len(heard)-1] = 7
	expect(t, "Passed", lease.Passed(10, most, heard), 7)
}

// 15.2: who must stop now, must stop later.
func TestOverStaysSo(t *testing.T) {
	for _, deadline := range numbers() {
		for _, until := range numbers() {
			for _, now := range numbers() {
				for _, later := range numbers() {
					_, over := lease.Over(now, deadline, until)
					if _, still := lease.Over(later, deadline, until); later >= now && over && !still {
						t.Errorf("of %d and %d it is over at %d, not at %d", deadline, until, now, later)
					}
				}
			}
		}
	}
}

// 15.2: just at Ends it begins.
func TestOverBeginsAtEnds(t *testing.T) {
	for _, deadline := range numbers() {
		for _, until := range numbers() {
			end := lease.Ends(deadline, until)
			if _, over := lease.Over(end, deadline, until); !over {
				t.Errorf("of %d and %d it is not over at %d", deadline, until, end)
			}
			if code, over := lease.Over(end-1, deadline, until); end > 0 && (over || code != 0) {
				t.Errorf("of %d and %d it is over at %d already, with %d", deadline, until, end-1, code)
			}
		}
	}
}

// 15.2: of small numbers one by one.
func TestSmallNumbers(t *testing.T) {
	for deadline := range 20 {
		for until := range 20 {
			for now := range 22 {
				_, over := lease.Over(now, deadline, until)
				if ends := lease.Ends(deadline, until); over != (now >= ends) {
					t.Errorf("Over(%d, %d, %d) is %t, though it ends at %d", now, deadline, until, over, ends)
				}
			}
		}
	}
}

// 15.2: passed on through however many, each by the one ahead alone, a lease goes no further than it was granted.
func TestPassedGoesNoFurther(t *testing.T) {
	r := rand.New(rand.NewSource(7))
	all := numbers()
	for range 5000 {
		now, span, heard := all[r.Intn(len(all))], all[r.Intn(len(all))], []int(nil)
		granted := lease.Grant(now, span)
		until := granted
		for range 1 + r.Intn(16) {
			heard = append(heard, all[r.Intn(len(all))])
			next := lease.Passed(now, span, heard)
			if next > until || next > granted || next > time(heard[len(heard)-1]) {
				t.Fatalf("Passed(%d, %d, %v) = %d, behind %d, of %d", now, span, heard, next, until, granted)
			}
			expect(t, "Passed", next, lease.Passed(until, 0, heard[len(heard)-1:]), heard...)
			until = next
		}
	}
}

// The chapter's example.
func TestExample(t *testing.T) {
	expectOver(t, 10, 20, 10, cancelled)
}
