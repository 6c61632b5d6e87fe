package policy_test

import (
	"math"
	"math/big"
	"math/rand"
	"slices"
	"testing"

	"hourglass/api"
	"hourglass/policy"
)

// The reasons, the codes that may be tried again, what is pushed back and the greatest time are written out, so that a test tells when they are taken wrongly.
const (
	again     = 0
	badCode   = 1
	taken     = 2
	spent     = 3
	pushed    = 4
	throttled = 5
	tooLate   = 6

	noPush = -2
	never  = -1

	exhausted   = 8
	unavailable = 14

	tick = 1 << 50
)

// config is one that may be, with other numbers for all that is asked.
func config() api.Config {
	return api.Config{
		Nodes: 2, Skew: 1, Lease: 70, Grain: 0, Least: 3, Hops: 2, Cap: 5, Fan: 2, Attempts: 4, Base: 10, Most: 35, Wait: 90, Tokens: 6,
		Programs: make([][]api.Op, 2),
	}
}

// facts are those of an attempt that config tries again: it is ready at 120, with 20 left to the deadline.
func facts() policy.Facts {
	return policy.Facts{Code: unavailable, Att: 2, Push: noPush, Have: 5000, Now: 100, Deadline: 140}
}

func expectReady(t *testing.T, c api.Config, f policy.Facts, want int) {
	t.Helper()
	if got := policy.Ready(c, f); got != want {
		t.Fatalf("Ready(%+v, %+v) = %d, not %d", c, f, got, want)
	}
}

func expectDecide(t *testing.T, c api.Config, f policy.Facts, why, when int) {
	t.Helper()
	if a, b := policy.Decide(c, f); a != why || b != when {
		t.Fatalf("Decide(%+v, %+v) = %d, %d, not %d, %d", c, f, a, b, why, when)
	}
}

func expectMost(t *testing.T, fan, attempts, hops, want int) {
	t.Helper()
	c := config()
	c.Fan, c.Attempts, c.Hops = fan, attempts, hops
	if got := policy.Most(c); got != want {
		t.Errorf("with a fan of %d, %d attempts and %d hops Most is %d, not %d", fan, attempts, hops, got, want)
	}
}

// held is the nearest number to n that is from least to most.
func held(n, least, most int) int {
	switch {
	case n < least:
		return least
	case n > most:
		return most
	}
	return n
}

// time is the nearest one that may be.
func time(n int) int { return held(n, 0, tick) }

// cut is a number as a time, of whatever size it is.
func cut(n *big.Int) int {
	if n.Cmp(big.NewInt(tick)) > 0 {
		return tick
	}
	return int(n.Int64())
}

// delay is how long one waits of one's own accord, by chapter 18's rule, in numbers that never run over.
func delay(c api.Config, f policy.Facts) int {
	doublings := uint(held(f.Att, 1, 65) - 1)
	d := new(big.Int).Lsh(big.NewInt(int64(time(c.Base))), doublings)
	if most := big.NewInt(int64(time(c.Most))); d.Cmp(most) > 0 {
		d = most
	}
	less := new(big.Int).Rsh(d, 1)
	less.Mul(less, big.NewInt(int64(held(f.Jitter, 0, 1000))))
	less.Div(less, big.NewInt(1000))
	return int(d.Int64() - less.Int64())
}

// ready is when it may be tried again, by the rule.
func ready(c api.Config, f policy.Facts) int {
	if f.Push < 0 {
		return time(time(f.Now) + delay(c, f))
	}
	return time(time(f.Now) + time(f.Push))
}

// may is whether there is more than a half of the tokens, by chapter 19's rule.
func may(c api.Config, f policy.Facts) bool {
	full := held(c.Tokens, 1, 1000) * 1000
	return 2*held(f.Have, 0, full) > full
}

// enough is whether something is left then, and as much as Least says, by chapter 14's rule.
func enough(c api.Config, f policy.Facts) bool {
	left := time(f.Deadline) - ready(c, f)
	return left >= 1 && left >= time(c.Least)
}

// decide is what is decided by the rule, as the chapter says it one by one.
func decide(c api.Config, f policy.Facts) (int, int) {
	if f.Code != exhausted && f.Code != unavailable {
		return badCode, 0
	}
	if f.Committed {
		return taken, 0
	}
	if c.Attempts <= f.Att {
		return spent, 0
	}
	if f.Push == never {
		return pushed, 0
	}
	if !may(c, f) {
		return throttled, 0
	}
	if !enough(c, f) {
		return tooLate, 0
	}
	return again, ready(c, f)
}

// most is the sum of the powers by the rule, in numbers that never run over, and cut off at the end alone.
func most(fan, attempts, hops int) int {
	below := new(big.Int).Mul(big.NewInt(int64(time(fan))), big.NewInt(int64(time(attempts))))
	all := new(big.Int)
	for power := 1; power <= held(hops, 0, 16); power++ {
		all.Add(all, new(big.Int).Exp(below, big.NewInt(int64(power)), nil))
	}
	return cut(all)
}

// numbers are ordinary ones, the edges with their neighbours, and numbers out of range.
func numbers() []int {
	return []int{
		math.MinInt, math.MinInt + 1, -tick, -1 << 32, -1000, -3, -2, -1, 0, 1, 2, 3, 4, 10, 20, 35, 500, 1000, 1001, 1 << 32,
		tick - 36, tick - 20, tick - 3, tick - 1, tick, tick + 1, math.MaxInt - 1, math.MaxInt,
	}
}

// number is a number at random, of whatever size.
func number(r *rand.Rand) int {
	return int(r.Uint64()) >> r.Intn(64)
}

// 20.1: the reasons, and what is pushed back, have these numbers.
func TestNumbers(t *testing.T) {
	if policy.Again != again || policy.BadCode != badCode || policy.Taken != taken || policy.Spent != spent {
		t.Error(policy.Again, policy.BadCode, policy.Taken, policy.Spent)
	}
	if policy.Pushed != pushed || policy.Throttled != throttled || policy.TooLate != tooLate {
		t.Error(policy.Pushed, policy.Throttled, policy.TooLate)
	}
	if policy.NoPush != noPush || policy.Never != never {
		t.Error(policy.NoPush, policy.Never)
	}
}

// 20.1: what was pushed back is waited, whatever one would wait of one's own accord.
func TestReadyPushed(t *testing.T) {
	for _, l := range []struct{ now, push, want int }{
		{100, 0, 100}, {100, 1, 101}, {100, 5, 105}, {100, 20, 120}, {100, 1000000, 1000100}, {0, 0, 0}, {0, 7, 7},
		{-1, 5, 5}, {math.MinInt, 5, 5}, {math.MinInt, 0, 0}, {100, tick - 101, tick - 1}, {100, tick - 100, tick}, {100, tick - 99, tick}, {100, tick, tick},
		{100, math.MaxInt, tick}, {-5, math.MaxInt, tick}, {tick, 0, tick}, {tick, 1, tick}, {tick - 1, 1, tick}, {math.MaxInt, 0, tick}, {math.MaxInt, math.MaxInt, tick},
	} {
		for attempt := range 9 {
			c, f := config(), facts()
			f.Now, f.Push, f.Att, f.Jitter = l.now, l.push, attempt, 100*attempt
			expectReady(t, c, f, l.want)
		}
	}
}

// 20.1: with nothing pushed back, it is waited longer from attempt to attempt, up to Most.
func TestReadyByAttempts(t *testing.T) {
	for _, l := range []struct{ attempt, jitter, want int }{
		{math.MinInt, 0, 110}, {-1, 0, 110}, {0, 0, 110}, {1, 0, 110}, {2, 0, 120}, {3, 0, 135}, {4, 0, 135}, {5, 0, 135}, {64, 0, 135}, {math.MaxInt, 0, 135},
		{1, 1000, 105}, {2, 1000, 110}, {3, 1000, 118}, {1, 500, 108}, {1, 200, 109}, {1, 199, 110}, {2, 99, 120}, {2, 100, 119}, {3, 58, 135}, {3, 59, 134},
		{1, -1, 110}, {1, math.MinInt, 110}, {1, 1001, 105}, {3, math.MaxInt, 118},
	} {
		for _, push := range []int{noPush, never, -3, -1000, -tick, math.MinInt} {
			c, f := config(), facts()
			f.Att, f.Jitter, f.Push = l.attempt, l.jitter, push
			expectReady(t, c, f, l.want)
		}
	}
}

// 20.1: base, most and now as they are, at the edges too.
func TestReadyOfTimes(t *testing.T) {
	for _, l := range []struct{ base, most, now, want int }{
		{10, 35, 0, 20}, {10, 35, -7, 20}, {10, 20, 100, 120}, {10, 19, 100, 119}, {10, 1, 100, 101}, {10, 0, 100, 100}, {10, -5, 100, 100}, {1, 1, 100, 101},
		{0, 35, 100, 100}, {-9, 35, 100, 100}, {40, 35, 100, 135}, {1000000, 1000000, 5, 1000005}, {math.MaxInt, math.MaxInt, 0, tick},
		{tick / 2, tick, 0, tick}, {tick / 4, tick, 0, tick / 2}, {tick, 35, 100, 135}, {10, math.MaxInt, 100, 120},
		{10, 35, tick - 21, tick - 1}, {10, 35, tick - 20, tick}, {10, 35, tick - 19, tick}, {10, 35, tick, tick}, {10, 35, math.MaxInt, tick}, {10, 35, math.MinInt, 20},
	} {
		c, f := config(), facts()
		c.Base, c.Most, f.Now = l.base, l.most, l.now
		expectReady(t, c, f, l.want)
	}
}

// 20.1: Ready tells it, whether it is tried again or not.
func TestReadyWhateverElse(t *testing.T) {
	for _, n := range numbers() {
		c, f := whatever(n), facts()
		c.Base, c.Most = 10, 35
		f.Code, f.Committed, f.Have, f.Deadline = n, n > 0, n, n
		c.Least, c.Hops, c.Fan, c.Attempts, c.Tokens = n, n, n, n, n
		expectReady(t, c, f, 120)
		f.Push = 5
		expectReady(t, c, f, 105)
	}
}

// whatever is config, with n for each setting of which nothing hangs when it is decided.
func whatever(n int) api.Config {
	c := config()
	c.Nodes, c.Skew, c.Lease, c.Grain, c.Hops, c.Cap, c.Fan, c.Wait = n, n, n, n, n, n, n, n
	c.Programs = make([][]api.Op, held(n, 0, 20))
	return c
}

// 20.1: what else is set does not count.
func TestDecideWhateverElse(t *testing.T) {
	for _, n := range numbers() {
		expectDecide(t, whatever(n), facts(), again, 120)
		for _, l := range reasons() {
			f := facts()
			l.change(&f)
			expectDecide(t, whatever(n), f, l.why, 0)
		}
	}
	c := whatever(1)
	c.Programs = nil
	expectDecide(t, c, facts(), again, 120)
}

// 20.1: two codes may be tried again, and none else.
func TestDecideOfCodes(t *testing.T) {
	list := numbers()
	for n := -20; n <= 40; n++ {
		list = append(list, n)
	}
	for _, n := range append(list, 256+unavailable, 256+exhausted, 1<<32+unavailable, 1<<32+exhausted, -unavailable, -exhausted) {
		f := facts()
		f.Code = n
		if n == 8 || n == 14 {
			expectDecide(t, config(), f, again, 120)
		} else {
			expectDecide(t, config(), f, badCode, 0)
		}
	}
}

// 20.1: what is committed is not tried again.
func TestDecideOfCommitted(t *testing.T) {
	f := facts()
	for _, n := range []int{exhausted, unavailable} {
		f.Code, f.Committed = n, false
		expectDecide(t, config(), f, again, 120)
		f.Committed = true
		expectDecide(t, config(), f, taken, 0)
	}
}

// 20.1: no attempt comes behind so many as Attempts.
func TestDecideOfAttempts(t *testing.T) {
	list := append(numbers(), 5, 6, 7, 15, 16, 17)
	for _, attempts := range list {
		for _, attempt := range list {
			c, f := config(), facts()
			c.Attempts, f.Att, f.Push = attempts, attempt, 5
			if attempt < attempts {
				expectDecide(t, c, f, again, 105)
			} else {
				expectDecide(t, c, f, spent, 0)
			}
		}
	}
}

// 20.1: Never alone pushes it away; another number below 0 is none that was pushed back.
func TestDecideOfPush(t *testing.T) {
	for _, l := range []struct{ push, why, when int }{
		{never, pushed, 0}, {noPush, again, 120}, {-3, again, 120}, {-1000, again, 120}, {-1 << 32, again, 120}, {1<<32 - 1, tooLate, 0},
		{math.MinInt, again, 120}, {0, again, 100}, {1, again, 101}, {5, again, 105}, {36, again, 136}, {37, again, 137}, {38, tooLate, 0}, {40, tooLate, 0},
		{tick, tooLate, 0}, {math.MaxInt, tooLate, 0},
	} {
		f := facts()
		f.Push = l.push
		expectDecide(t, config(), f, l.why, l.when)
	}
}

// 20.1: there must be more than a half of the tokens.
func TestDecideOfTokens(t *testing.T) {
	for _, l := range []struct {
		have, tokens int
		may          bool
	}{
		{3000, 6, false}, {3001, 6, true}, {2999, 6, false}, {0, 6, false}, {1, 6, false}, {6000, 6, true}, {6001, 6, true}, {math.MaxInt, 6, true},
		{-1, 6, false}, {math.MinInt, 6, false}, {500, 1, false}, {501, 1, true}, {501, 0, true}, {500, 0, false}, {501, math.MinInt, true}, {500, -7, false},
		{500000, 1000, false}, {500001, 1000, true}, {500001, 1001, true}, {500000, math.MaxInt, false}, {500001, math.MaxInt, true}, {3500, 7, false}, {3501, 7, true},
	} {
		c, f := config(), facts()
		c.Tokens, f.Have = l.tokens, l.have
		if l.may {
			expectDecide(t, c, f, again, 120)
		} else {
			expectDecide(t, c, f, throttled, 0)
		}
	}
}

// 20.1: from Ready on, not from Now on, there must be something left, and as much as Least says.
func TestDecideOfTime(t *testing.T) {
	for _, l := range []struct {
		deadline, least int
		enough          bool
	}{
		{140, 3, true}, {123, 3, true}, {122, 3, false}, {121, 3, false}, {120, 3, false}, {119, 3, false}, {100, 3, false}, {0, 3, false}, {-1, 3, false}, {math.MinInt, 3, false},
		{121, 1, true}, {120, 1, false}, {121, 0, true}, {120, 0, false}, {121, -4, true}, {120, -4, false}, {120, math.MinInt, false}, {119, 0, false}, {121, 2, false},
		{140, 20, true}, {140, 21, false}, {140, math.MaxInt, false}, {tick, tick - 120, true}, {tick, tick - 119, false}, {math.MaxInt, tick - 120, true}, {math.MaxInt, tick - 119, false},
		{math.MaxInt, 3, true}, {math.MaxInt, math.MaxInt, false},
	} {
		c, f := config(), facts()
		c.Least, f.Deadline = l.least, l.deadline
		if l.enough {
			expectDecide(t, c, f, again, 120)
		} else {
			expectDecide(t, c, f, tooLate, 0)
		}
	}
}

// 20.1: with jitter it is ready ahead, and may be in time so.
func TestDecideOfJitter(t *testing.T) {
	c, f := config(), facts()
	f.Deadline = 114
	expectDecide(t, c, f, tooLate, 0)
	f.Jitter = 899
	expectDecide(t, c, f, tooLate, 0)
	f.Jitter = 900
	expectDecide(t, c, f, again, 111)
	f.Jitter = 1000
	expectDecide(t, c, f, again, 110)
	f.Att = 3
	expectDecide(t, c, f, tooLate, 0)
	f.Att = 1
	expectDecide(t, c, f, again, 105)
}

// 20.1: at the end of time nothing is left, whatever the deadline is.
func TestDecideAtTheEndOfTime(t *testing.T) {
	c, f := config(), facts()
	f.Deadline, c.Least = math.MaxInt, 1
	for _, now := range []int{tick - 20, tick - 19, tick - 1, tick, tick + 1, math.MaxInt} {
		f.Now = now
		expectDecide(t, c, f, tooLate, 0)
	}
	f.Now = tick - 21
	expectDecide(t, c, f, again, tick-1)
	f.Now, f.Push = tick-1, 0
	expectDecide(t, c, f, again, tick-1)
	f.Now = tick
	expectDecide(t, c, f, tooLate, 0)
}

// 20.1: at the beginning of time it may be tried again at 0.
func TestDecideAtTheBeginningOfTime(t *testing.T) {
	c, f := config(), facts()
	f.Push, f.Deadline = 0, 3
	for _, now := range []int{0, -1, -100, math.MinInt} {
		f.Now = now
		expectDecide(t, c, f, again, 0)
	}
	f.Now = 1
	expectDecide(t, c, f, tooLate, 0)
}

// reason is one by which it is not tried again, and what makes it apply.
type reason struct {
	change func(f *policy.Facts)
	why    int
}

// reasons are all of them, the one that is named first ahead; all can apply at once.
func reasons() []reason {
	return []reason{
		{func(f *policy.Facts) { f.Code = 13 }, badCode},
		{func(f *policy.Facts) { f.Committed = true }, taken},
		{func(f *policy.Facts) { f.Att = 4 }, spent},
		{func(f *policy.Facts) { f.Push = never }, pushed},
		{func(f *policy.Facts) { f.Have = 3000 }, throttled},
		{func(f *policy.Facts) { f.Deadline = 100 }, tooLate},
	}
}

// R2: where several reasons apply, the one that is named first is told.
func TestFirstNamed(t *testing.T) {
	list := reasons()
	for some := range 1 << len(list) {
		f := facts()
		why, when := again, 120
		for i := len(list) - 1; i >= 0; i-- {
			if some>>i&1 == 1 {
				list[i].change(&f)
				why, when = list[i].why, 0
			}
		}
		expectDecide(t, config(), f, why, when)
	}
}

// 20.1: the zero ones.
func TestZero(t *testing.T) {
	expectReady(t, api.Config{}, policy.Facts{}, 0)
	expectDecide(t, api.Config{}, policy.Facts{}, badCode, 0)
	expectDecide(t, api.Config{}, policy.Facts{Code: unavailable}, spent, 0)
	expectDecide(t, api.Config{Attempts: 1}, policy.Facts{Code: unavailable}, throttled, 0)
	expectDecide(t, api.Config{Attempts: 1}, policy.Facts{Code: unavailable, Have: 501}, tooLate, 0)
	expectDecide(t, api.Config{Attempts: 1}, policy.Facts{Code: unavailable, Have: 501, Deadline: 1}, again, 0)
}

// expectByRule expects what the rule says, the same again, and of Decide what 20.3 says.
func expectByRule(t *testing.T, c api.Config, f policy.Facts) int {
	t.Helper()
	why, when := decide(c, f)
	for range 2 {
		expectReady(t, c, f, ready(c, f))
		expectDecide(t, c, f, why, when)
	}
	expectOnly(t, c, f)
	return why
}

// expectOnly expects that it is tried again only where 20.3 says so, and that no time is told else.
func expectOnly(t *testing.T, c api.Config, f policy.Facts) {
	t.Helper()
	why, when := policy.Decide(c, f)
	if why != again {
		if why < badCode || why > tooLate || when != 0 {
			t.Fatalf("Decide(%+v, %+v) = %d, %d", c, f, why, when)
		}
		return
	}
	fair := (f.Code == exhausted || f.Code == unavailable) && !f.Committed && f.Att < c.Attempts && f.Push != never
	full := held(c.Tokens, 1, 1000) * 1000
	rich := held(f.Have, 0, full) > full/2
	waited := when >= time(f.Now) && (f.Push < 0 || when >= time(time(f.Now)+time(f.Push)))
	left := when < time(f.Deadline) && time(f.Deadline)-when >= time(c.Least)
	if !fair || !rich || !waited || !left {
		t.Fatalf("Decide(%+v, %+v) = %d, %d: %t, %t, %t, %t", c, f, why, when, fair, rich, waited, left)
	}
}

// 20.1, 20.3, of all times, the edges and those out of range too.
func TestTimes(t *testing.T) {
	for _, now := range numbers() {
		for _, deadline := range numbers() {
			for _, push := range numbers() {
				for _, least := range []int{math.MinInt, -1, 0, 1, 3, 20, tick, math.MaxInt} {
					c, f := config(), facts()
					f.Now, f.Deadline, f.Push, c.Least = now, deadline, push, least
					expectByRule(t, c, f)
				}
			}
		}
	}
}

// 20.1, 20.3, of all that one waits of one's own accord, the edges and what is out of range too.
func TestDelays(t *testing.T) {
	for _, base := range numbers() {
		for _, top := range numbers() {
			for _, attempt := range numbers() {
				for _, jitter := range []int{math.MinInt, -1, 0, 1, 499, 500, 999, 1000, 1001, math.MaxInt} {
					c, f := config(), facts()
					c.Base, c.Most, c.Attempts, f.Att, f.Jitter, f.Deadline = base, top, 5, attempt, jitter, 130
					expectByRule(t, c, f)
				}
			}
		}
	}
}

// drawn are a configuration and facts, with numbers that are near each other, of which many are tried again.
func drawn(r *rand.Rand) (api.Config, policy.Facts) {
	c, f := config(), facts()
	c.Least, c.Attempts, c.Base, c.Most, c.Tokens = r.Intn(5), 1+r.Intn(5), r.Intn(12), r.Intn(40), 1+r.Intn(4)
	f.Code = []int{exhausted, unavailable, unavailable, unavailable, r.Intn(17)}[r.Intn(5)]
	f.Att, f.Committed, f.Push, f.Have = r.Intn(5), r.Intn(8) == 0, r.Intn(23)-3, r.Intn(6000)
	f.Now, f.Jitter = r.Intn(30), r.Intn(1200)-100
	f.Deadline = f.Now + r.Intn(50) - 5
	return c, f
}

// 20.1, 20.3, at random: each reason is met, and each is as the rule says.
func TestAtRandom(t *testing.T) {
	r := rand.New(rand.NewSource(20))
	var met [tooLate + 1]int
	for range 100000 {
		c, f := drawn(r)
		met[expectByRule(t, c, f)]++
	}
	for why, n := range met {
		if n < 1000 {
			t.Errorf("%d is met %d times alone", why, n)
		}
	}
}

// 20.1, 20.3, at random, of numbers of whatever size.
func TestWhateverNumbers(t *testing.T) {
	r := rand.New(rand.NewSource(201))
	for range 100000 {
		c, f := drawn(r)
		for _, at := range []*int{&c.Least, &c.Attempts, &c.Base, &c.Most, &c.Tokens, &f.Att, &f.Push, &f.Have, &f.Now, &f.Jitter, &f.Deadline} {
			if r.Intn(3) == 0 {
				*at = number(r)
			}
		}
		expectByRule(t, c, f)
	}
}

// 20.3: when each attempt fails, there are just as many as Attempts, one behind the other.
func TestAttemptsEnd(t *testing.T) {
	for attempts := 1; attempts <= 5; attempts++ {
		c, f := config(), facts()
		c.Attempts, f.Deadline = attempts, tick
		made := 1
		for f.Att = 1; ; f.Att++ {
			why, when := policy.Decide(c, f)
			if why != again {
				expectDecide(t, c, f, spent, 0)
				break
			}
			if when <= f.Now {
				t.Fatalf("the attempt behind %d at %d is ready at %d", f.Att, f.Now, when)
			}
			f.Now = when
			made++
		}
		if made != attempts {
			t.Errorf("of %d attempts there are %d", attempts, made)
		}
	}
}

// 20.2: the sum of the powers, from the first on.
func TestMost(t *testing.T) {
	expectMost(t, 2, 3, 1, 6)
	expectMost(t, 2, 3, 2, 6+36)
	expectMost(t, 2, 3, 3, 6+36+216)
	expectMost(t, 3, 2, 3, 6+36+216)
	expectMost(t, 1, 1, 1, 1)
	expectMost(t, 1, 1, 16, 16)
	expectMost(t, 1, 2, 4, 2+4+8+16)
	expectMost(t, 2, 1, 16, 1<<17-2)
	expectMost(t, 8, 5, 1, 40)
	expectMost(t, 8, 5, 2, 1640)
	expectMost(t, 8, 5, 9, 268865641025640)
	expectMost(t, 8, 5, 10, tick)
	expectMost(t, 8, 5, 16, tick)
}

// 20.2: without hops, calls or attempts there are none.
func TestMostOfNothing(t *testing.T) {
	for _, n := range []int{0, -1, -2, -16, -tick, math.MinInt} {
		expectMost(t, 2, 3, n, 0)
		expectMost(t, n, 3, 3, 0)
		expectMost(t, 2, n, 3, 0)
		expectMost(t, n, n, 3, 0)
		expectMost(t, -3, n, 3, 0)
		expectMost(t, math.MaxInt, n, 16, 0)
	}
	if n := policy.Most(api.Config{}); n != 0 {
		t.Error(n)
	}
}

// 20.2: there are at most 16 hops.
func TestMostOfHops(t *testing.T) {
	for _, hops := range []int{16, 17, 18, 32, 1000, 1 << 32, tick, math.MaxInt} {
		expectMost(t, 1, 1, hops, 16)
		expectMost(t, 2, 1, hops, 1<<17-2)
		expectMost(t, 1, 4, hops, 5726623060)
	}
	expectMost(t, 1, 1, 15, 15)
}

// 20.2: neither the product, nor a power, nor the sum runs over.
func TestMostFarOff(t *testing.T) {
	expectMost(t, math.MaxInt, 1, 1, tick)
	expectMost(t, math.MaxInt, math.MaxInt, 16, tick)
	expectMost(t, 1<<32, 1<<32, 2, tick)
	expectMost(t, 1<<31, 1<<33, 1, tick)
	expectMost(t, tick, 1, 1, tick)
	expectMost(t, tick-1, 1, 1, tick-1)
	expectMost(t, tick-1, 1, 2, tick)
	expectMost(t, 1<<25, 1, 2, tick)
	expectMost(t, 1<<25-1, 1, 2, 1<<50-1<<26+1+1<<25-1)
	expectMost(t, 1<<24, 1, 2, 1<<48+1<<24)
	expectMost(t, 1<<24, 1, 3, tick)
	// One power more alone makes the sum too great.
	expectMost(t, 9, 1, 15, 231627523606479)
	expectMost(t, 9, 1, 16, tick)
	expectMost(t, 8, 1, 16, 321685687669320)
}

// 20.2: of all settings that may be, and of those that may not, as the rule says; nothing else counts.
func TestMostOfAll(t *testing.T) {
	far := []int{math.MinInt, -tick, -2, -1, 1000, 1 << 25, 1 << 31, 1 << 32, tick - 1, tick, tick + 1, math.MaxInt}
	around := func(n int) []int {
		list := slices.Clone(far)
		for i := range n + 3 {
			list = append(list, i)
		}
		return list
	}
	for _, fan := range around(8) {
		for _, attempts := range around(5) {
			for _, hops := range around(16) {
				want := most(fan, attempts, hops)
				expectMost(t, fan, attempts, hops, want)
				if n := policy.Most(api.Config{Fan: fan, Attempts: attempts, Hops: hops}); n != want {
					t.Errorf("with a fan of %d, %d attempts and %d hops alone Most is %d, not %d", fan, attempts, hops, n, want)
				}
			}
		}
	}
}

// 20.2: it is no less with one hop, one call or one attempt more.
func TestMostGrows(t *testing.T) {
	for fan := range 10 {
		for attempts := range 7 {
			for hops := range 18 {
				c := api.Config{Fan: fan, Attempts: attempts, Hops: hops}
				n := policy.Most(c)
				for _, more := range []api.Config{{Fan: fan + 1, Attempts: attempts, Hops: hops}, {Fan: fan, Attempts: attempts + 1, Hops: hops}, {Fan: fan, Attempts: attempts, Hops: hops + 1}} {
					if m := policy.Most(more); m < n || m > tick {
						t.Errorf("of %+v there are %d, of %+v there are %d", c, n, more, m)
					}
				}
			}
		}
	}
}

// R4: what is handed in stays.
func TestProgramsStay(t *testing.T) {
	c := config()
	c.Programs = [][]api.Op{{{Kind: api.Work, A: 2}}, {{Kind: api.Answer, A: 5}}}
	policy.Ready(c, facts())
	policy.Decide(c, facts())
	policy.Most(c)
	if len(c.Programs) != 2 || c.Programs[0][0] != (api.Op{Kind: api.Work, A: 2}) || c.Programs[1][0] != (api.Op{Kind: api.Answer, A: 5}) {
		t.Errorf("%+v", c)
	}
}

// The chapter's example.
func TestExample(t *testing.T) {
	c := config()
	c.Attempts = 3
	expectDecide(t, c, policy.Facts{Code: unavailable, Att: 1, Push: 5, Have: 6000, Now: 10, Deadline: 100}, again, 15)
}
