package call_test

import (
	"math"
	"math/rand"
	"testing"

	"hourglass/api"
	"hourglass/call"
	"hourglass/policy"
)

// The states, the reasons, the codes, and the greatest numbers are written out, so that a test tells when they are taken wrongly.
const (
	fresh   = 0
	waiting = 1
	resting = 2
	over    = 3

	again     = 0
	badCode   = 1
	taken     = 2
	spent     = 3
	pushed    = 4
	throttled = 5
	tooLate   = 6

	ok          = 0
	unknown     = 2
	internal    = 13
	unavailable = 14

	attempts = 5
	tick     = 1 << 50
	value    = 1<<31 - 1
)

// states are all that there are, and some that there are not.
func states() []int {
	return []int{math.MinInt, -1, fresh, waiting, resting, over, 4, 257, 1<<32 + 1, math.MaxInt}
}

// numbers are ordinary ones, the edges with their neighbours, and numbers out of range.
func numbers() []int {
	return []int{
		math.MinInt, math.MinInt + 1, -tick, -1 << 32, -8, -1, 0, 1, 2, 3, 4, 5, 6, 7, 8, 9, 16, 17, 20, 40, 59, 60, 61, 1000,
		value - 1, value, value + 1, 1 << 32, tick - 8, tick - 1, tick, tick + 1, math.MaxInt - 1, math.MaxInt,
	}
}

// number is a number at random, of whatever size.
func number(r *rand.Rand) int {
	return int(r.Uint64()) >> r.Intn(64)
}

// held is the nearest number to n that is from least to most.
func held(n, least, most int) int {
	switch {
	case n < least:
		return least
	case n > most:
		return most
	}
	return n
}

// time is the nearest one that may be.
func time(n int) int { return held(n, 0, tick) }

// whole is a call in a state, with something in each field, so that a test tells which of them change.
func whole(state int) call.Call {
	return call.Call{
		Id: api.Id{Node: 3, Inc: 4, Seq: 17}, To: 6, Program: 7, Att: 2, State: state, Sent: 40, Ready: 33, Committed: state == over,
		Code: 9, Value: 11, Tries: 8,
	}
}

// config is one that may be; of its settings those that are asked are all apart.
func config() api.Config {
	return api.Config{
		Nodes: 2, Skew: 1, Lease: 70, Grain: 0, Least: 3, Hops: 2, Cap: 5, Fan: 2, Attempts: 4, Base: 10, Most: 35, Wait: 90, Tokens: 6,
		Programs: make([][]api.Op, 2),
	}
}

// facts are such that config tries a whole call that waits again, at 120, with 20 left to the deadline.
func facts() policy.Facts {
	return policy.Facts{Code: unavailable, Att: 1, Push: policy.NoPush, Have: 5000, Now: 100, Deadline: 140}
}

func expectBegin(t *testing.T, c call.Call, now int, want call.Call) {
	t.Helper()
	if got := call.Begin(c, now); got != want {
		t.Errorf("Begin(%+v, %d) = %+v, not %+v", c, now, got, want)
	}
}

func expectEnds(t *testing.T, c call.Call, n int, want call.Call) {
	t.Helper()
	if got := call.Ends(c, n); got != want {
		t.Errorf("Ends(%+v, %d) = %+v, not %+v", c, n, got, want)
	}
}

func expectGood(t *testing.T, c call.Call, n int, want call.Call) {
	t.Helper()
	if got := call.Good(c, n); got != want {
		t.Errorf("Good(%+v, %d) = %+v, not %+v", c, n, got, want)
	}
}

func expectTaken(t *testing.T, c call.Call, want call.Call) {
	t.Helper()
	if got := call.Taken(c); got != want {
		t.Errorf("Taken(%+v) = %+v, not %+v", c, got, want)
	}
}

func expectBad(t *testing.T, c call.Call, conf api.Config, f policy.Facts, want call.Call, why int) {
	t.Helper()
	if got, because := call.Bad(c, conf, f); got != want || because != why {
		t.Errorf("Bad(%+v, %+v, %+v) = %+v, %d, not %+v, %d", c, conf, f, got, because, want, why)
	}
}

func expectLost(t *testing.T, c call.Call, now, wait, grain int, want bool) {
	t.Helper()
	if got := call.Lost(c, now, wait, grain); got != want {
		t.Errorf("Lost(%+v, %d, %d, %d) = %v", c, now, wait, grain, got)
	}
}

func expectRested(t *testing.T, c call.Call, now, grain int, want bool) {
	t.Helper()
	if got := call.Rested(c, now, grain); got != want {
		t.Errorf("Rested(%+v, %d, %d) = %v", c, now, grain, got)
	}
}

// ended is a call behind its end, by the rule: all else stays.
func ended(c call.Call, code, value int) call.Call {
	c.State, c.Code, c.Value, c.Ready = over, code, value, 0
	return c
}

// rests is a call that rests up to then, by the rule: all else stays.
func rests(c call.Call, ready int) call.Call {
	c.State, c.Ready = resting, ready
	return c
}

// past is whether a time is reached as far as a grain goes, by chapter 1's rule.
func past(now, t, grain int) bool {
	up := time(t)
	if over := up % max(1, time(grain)); over > 0 {
		up += time(grain) - over
	}
	return time(now) >= time(up)
}

// The chapter: the states have these numbers.
func TestNumbers(t *testing.T) {
	if call.Fresh != fresh || call.Waiting != waiting || call.Resting != resting || call.Over != over {
		t.Error(call.Fresh, call.Waiting, call.Resting, call.Over)
	}
}

// 21.1: a key is Id and Att, as they are.
func TestKey(t *testing.T) {
	for _, state := range states() {
		if k := call.Key(whole(state)); k != (api.Key{Id: api.Id{Node: 3, Inc: 4, Seq: 17}, Att: 2}) {
			t.Errorf("of the state %d the key is %+v", state, k)
		}
	}
	for _, n := range numbers() {
		for _, c := range []call.Call{{Att: n}, {Id: api.Id{Node: n}}, {Id: api.Id{Inc: n}}, {Id: api.Id{Seq: n}}} {
			if k := call.Key(c); k != (api.Key{Id: c.Id, Att: c.Att}) {
				t.Errorf("of %+v the key is %+v", c, k)
			}
		}
		if k := call.Key(call.Call{To: n, Program: n, State: n, Sent: n, Ready: n, Committed: true, Code: n, Value: n, Tries: n}); k != (api.Key{}) {
			t.Errorf("of %d the key is %+v", n, k)
		}
	}
}

// 21.1: who is fresh, or rests, begins.
func TestBegin(t *testing.T) {
	for _, state := range []int{fresh, resting} {
		for _, committed := range []bool{false, true} {
			c := whole(state)
			c.Committed = committed
			want := c
			want.Att, want.Tries, want.State, want.Sent, want.Ready = 3, 9, waiting, 50, 0
			expectBegin(t, c, 50, want)
		}
	}
	expectBegin(t, call.Call{}, 0, call.Call{Att: 1, State: waiting, Tries: 1})
	expectBegin(t, call.Call{To: 1, Program: 2}, 40, call.Call{To: 1, Program: 2, Att: 1, State: waiting, Sent: 40, Tries: 1})
	expectBegin(t, call.Call{Att: 1, State: resting, Sent: 40, Ready: 54, Tries: 1}, 55, call.Call{Att: 2, State: waiting, Sent: 55, Tries: 2})
}

// 21.1: who waits, is over, or is in a state that is none, does not begin.
func TestBeginOfStates(t *testing.T) {
	for _, state := range states() {
		if state == fresh || state == resting {
			continue
		}
		expectBegin(t, whole(state), 50, whole(state))
		expectBegin(t, call.Call{State: state}, 50, call.Call{State: state})
	}
}

// 21.1: it begins below five attempts, whatever Tries says.
func TestBeginOfAttempts(t *testing.T) {
	for _, state := range []int{fresh, resting} {
		for _, n := range append(numbers(), 10, 256, -5) {
			for _, tries := range []int{-1, 0, 4, 5, 6, 1000} {
				c := whole(state)
				c.Att, c.Tries = n, tries
				want := c
				if n < attempts {
					want.Att, want.Tries, want.State, want.Sent, want.Ready = n+1, tries+1, waiting, 50, 0
				}
				expectBegin(t, c, 50, want)
			}
		}
	}
}

// 21.1: it is sent at the nearest time that there is.
func TestBeginOfTimes(t *testing.T) {
	for _, l := range []struct{ now, sent int }{
		{math.MinInt, 0}, {-tick, 0}, {-1, 0}, {0, 0}, {1, 1}, {40, 40}, {1 << 32, 1 << 32}, {tick - 1, tick - 1}, {tick, tick}, {tick + 1, tick}, {math.MaxInt, tick},
	} {
		want := whole(waiting)
		want.Att, want.Tries, want.Sent, want.Ready = 3, 9, l.sent, 0
		expectBegin(t, whole(fresh), l.now, want)
		expectBegin(t, whole(resting), l.now, want)
	}
}

// 21.1: whoever is not over ends, with a code that there is, without a value, and ready no more.
func TestEnds(t *testing.T) {
	for _, state := range states() {
		for n := range 17 {
			want := ended(whole(state), n, 0)
			if state == over {
				want = whole(over)
			}
			expectEnds(t, whole(state), n, want)
		}
		for _, n := range []int{math.MinInt, -14, -2, -1, 17, 18, 256, 1<<32 + 14, 1 << 32, math.MaxInt} {
			want := ended(whole(state), unknown, 0)
			if state == over {
				want = whole(over)
			}
			expectEnds(t, whole(state), n, want)
		}
	}
	expectEnds(t, call.Call{}, 4, call.Call{State: over, Code: 4})
	expectEnds(t, call.Call{}, 0, call.Call{State: over})
}

// 21.1: it stays taken for good, when it is over.
func TestEndsOfCommitted(t *testing.T) {
	c := whole(waiting)
	c.Committed = true
	expectEnds(t, c, 1, ended(c, 1, 0))
	expectGood(t, c, 5, ended(c, ok, 5))
}

// 21.1: who waits ends well, with a value that is held to what may be.
func TestGood(t *testing.T) {
	for _, l := range []struct{ value, want int }{
		{0, 0}, {1, 1}, {7, 7}, {1 << 30, 1 << 30}, {value - 1, value - 1}, {value, value}, {value + 1, value}, {1 << 32, value}, {1<<32 + 5, value},
		{1 << 40, value}, {math.MaxInt, value}, {-1, 0}, {-7, 0}, {-1 << 32, 0}, {math.MinInt, 0},
	} {
		expectGood(t, whole(waiting), l.value, ended(whole(waiting), ok, l.want))
		expectGood(t, call.Call{State: waiting}, l.value, call.Call{State: over, Value: l.want})
	}
}

// 21.1: nobody else ends well.
func TestGoodOfStates(t *testing.T) {
	for _, state := range states() {
		if state == waiting {
			continue
		}
		for _, n := range []int{math.MinInt, -1, 0, 7, value + 1, math.MaxInt} {
			expectGood(t, whole(state), n, whole(state))
			expectGood(t, call.Call{State: state}, n, call.Call{State: state})
		}
	}
}

// 21.1: who waits is taken for good, and stays so; nobody else is.
func TestTaken(t *testing.T) {
	for _, state := range states() {
		for _, committed := range []bool{false, true} {
			c := whole(state)
			c.Committed = committed
			want := c
			want.Committed = committed || state == waiting
			expectTaken(t, c, want)
			expectTaken(t, call.Taken(c), want)
		}
	}
	expectTaken(t, call.Call{State: waiting}, call.Call{State: waiting, Committed: true})
	expectTaken(t, call.Call{}, call.Call{})
}

// 21.2: what is tried again rests until then; all else stays.
func TestBadAgain(t *testing.T) {
	expectBad(t, whole(waiting), config(), facts(), rests(whole(waiting), 120), again)
	for _, l := range []struct {
		change func(f *policy.Facts)
		ready  int
	}{
		{func(f *policy.Facts) { f.Code = 8 }, 120},
		{func(f *policy.Facts) { f.Push = 0 }, 100},
		{func(f *policy.Facts) { f.Push = 5 }, 105},
		{func(f *policy.Facts) { f.Push = 37 }, 137},
		{func(f *policy.Facts) { f.Jitter = 1000 }, 110},
		{func(f *policy.Facts) { f.Jitter = 100 }, 119},
		{func(f *policy.Facts) { f.Now = 117 }, 137},
		{func(f *policy.Facts) { f.Now, f.Push = -5, 0 }, 0},
		{func(f *policy.Facts) { f.Have = 3001 }, 120},
	} {
		f := facts()
		l.change(&f)
		expectBad(t, whole(waiting), config(), f, rests(whole(waiting), l.ready), again)
	}
}

// 21.2: what is not tried again is over, with the code that was told, and tells why.
func TestBadOver(t *testing.T) {
	for _, l := range []struct {
		change func(c *call.Call, f *policy.Facts)
		why    int
	}{
		{func(c *call.Call, f *policy.Facts) { f.Code = internal }, badCode},
		{func(c *call.Call, f *policy.Facts) { c.Committed = true }, taken},
		{func(c *call.Call, f *policy.Facts) { c.Att = 4 }, spent},
		{func(c *call.Call, f *policy.Facts) { f.Push = policy.Never }, pushed},
		{func(c *call.Call, f *policy.Facts) { f.Have = 3000 }, throttled},
		{func(c *call.Call, f *policy.Facts) { f.Deadline = 122 }, tooLate},
	} {
		for _, code := range []int{8, unavailable} {
			c, f := whole(waiting), facts()
			f.Code = code
			l.change(&c, &f)
			expectBad(t, c, config(), f, ended(c, f.Code, 0), l.why)
		}
	}
}

// 21.2: with a code that is not tried again it is over, and of a code that is none that is Unknown.
func TestBadOfCodes(t *testing.T) {
	for n := -20; n <= 40; n++ {
		f := facts()
		f.Code = n
		switch {
		case n == 8 || n == unavailable:
			expectBad(t, whole(waiting), config(), f, rests(whole(waiting), 120), again)
		case n >= 0 && n <= 16:
			expectBad(t, whole(waiting), config(), f, ended(whole(waiting), n, 0), badCode)
		default:
			expectBad(t, whole(waiting), config(), f, ended(whole(waiting), unknown, 0), badCode)
		}
	}
	for _, n := range []int{math.MinInt, -unavailable, 256 + unavailable, 1<<32 + unavailable, math.MaxInt} {
		f := facts()
		f.Code = n
		expectBad(t, whole(waiting), config(), f, ended(whole(waiting), unknown, 0), badCode)
	}
}

// 21.2: the call's own attempt counts, whatever the facts say.
func TestBadOfAttempts(t *testing.T) {
	for _, att := range []int{math.MinInt, -1, 0, 1, 2, 3, 4, 5, 6, math.MaxInt} {
		for _, told := range []int{math.MinInt, -1, 0, 1, 2, 3, 4, 5, 6, math.MaxInt} {
			c, f := whole(waiting), facts()
			c.Att, f.Att = att, told
			switch {
			case att >= 4:
				expectBad(t, c, config(), f, ended(c, unavailable, 0), spent)
			case att == 3:
				expectBad(t, c, config(), f, rests(c, 135), again)
			case att == 2:
				expectBad(t, c, config(), f, rests(c, 120), again)
			default:
				expectBad(t, c, config(), f, rests(c, 110), again)
			}
		}
	}
}

// 21.2: how many it had does not count, as Att does.
func TestBadOfTries(t *testing.T) {
	for _, tries := range numbers() {
		c := whole(waiting)
		c.Tries = tries
		expectBad(t, c, config(), facts(), rests(c, 120), again)
	}
}

// 21.2: the call itself knows whether it was taken, whatever the facts say.
func TestBadOfCommitted(t *testing.T) {
	for _, told := range []bool{false, true} {
		c, f := whole(waiting), facts()
		f.Committed = told
		expectBad(t, c, config(), f, rests(c, 120), again)
		c.Committed = true
		expectBad(t, c, config(), f, ended(c, unavailable, 0), taken)
	}
}

// 21.2: who does not wait can't fail, whatever is told.
func TestBadOfStates(t *testing.T) {
	for _, state := range states() {
		if state == waiting {
			continue
		}
		for _, code := range []int{-1, ok, 8, internal, unavailable, 17} {
			for _, push := range []int{policy.NoPush, policy.Never, 0, 5} {
				for _, deadline := range []int{0, 140} {
					f := facts()
					f.Code, f.Push, f.Deadline = code, push, deadline
					expectBad(t, whole(state), config(), f, whole(state), badCode)
					expectBad(t, call.Call{State: state}, config(), f, call.Call{State: state}, badCode)
				}
			}
		}
	}
	expectBad(t, call.Call{}, api.Config{}, policy.Facts{}, call.Call{}, badCode)
}

// 21.2: the configuration that is handed in counts.
func TestBadOfConfigs(t *testing.T) {
	c := config()
	c.Base = 4
	expectBad(t, whole(waiting), c, facts(), rests(whole(waiting), 108), again)
	c.Base, c.Most = 35, 36
	expectBad(t, whole(waiting), c, facts(), rests(whole(waiting), 136), again)
	c.Least = 5
	expectBad(t, whole(waiting), c, facts(), ended(whole(waiting), unavailable, 0), tooLate)
	c.Tokens = 10
	expectBad(t, whole(waiting), c, facts(), ended(whole(waiting), unavailable, 0), throttled)
	c.Attempts = 2
	expectBad(t, whole(waiting), c, facts(), ended(whole(waiting), unavailable, 0), spent)
	expectBad(t, whole(waiting), api.Config{}, facts(), ended(whole(waiting), unavailable, 0), spent)
}

// 21.2: from Sent and wait on, as far as the grain goes, one that waits is lost.
func TestLost(t *testing.T) {
	for _, l := range []struct {
		now, wait, grain int
		want             bool
	}{
		{59, 20, 1, false}, {60, 20, 1, true}, {61, 20, 1, true}, {60, 20, 0, true}, {59, 20, 0, false}, {60, 20, -3, true}, {59, 20, -3, false},
		{60, 20, 8, false}, {63, 20, 8, false}, {64, 20, 8, true}, {60, 20, 4, true}, {60, 20, 60, true}, {119, 20, 59, true}, {117, 20, 59, false},
		{118, 20, 59, true}, {60, 20, 64, false}, {63, 20, 64, false}, {64, 20, 64, true}, {99, 20, 100, false}, {100, 20, 100, true},
		{40, 0, 1, true}, {39, 0, 1, false}, {40, -5, 1, true}, {39, -5, 1, false}, {40, math.MinInt, 1, true}, {39, math.MinInt, 1, false},
		{0, 20, 1, false}, {-1, 0, 1, false}, {math.MinInt, 20, 1, false}, {math.MaxInt, 20, 1, true}, {tick, tick, 1, true}, {tick - 1, tick, 1, false},
		{tick + 1, tick, 1, true}, {tick - 1, tick - 40, 1, false}, {tick - 1, tick - 41, 1, true}, {tick, math.MaxInt, math.MaxInt, true},
		{math.MaxInt, math.MaxInt, 1, true}, {tick - 1, math.MaxInt, 1, false}, {tick - 1, 20, tick, false}, {tick, 20, tick, true}, {tick, 20, math.MaxInt, true},
	} {
		expectLost(t, whole(waiting), l.now, l.wait, l.grain, l.want)
	}
}

// 21.2: Sent is a time, whatever it is.
func TestLostOfSent(t *testing.T) {
	for _, l := range []struct {
		sent, now, wait int
		want            bool
	}{
		{0, 19, 20, false}, {0, 20, 20, true}, {-7, 19, 20, false}, {-7, 20, 20, true}, {math.MinInt, 19, 20, false}, {math.MinInt, 20, 20, true}, {0, 0, 0, true},
		{-1, -1, 0, true}, {tick, tick, 20, true}, {tick, tick - 1, 20, false}, {tick - 1, tick, 1, true}, {tick - 1, tick - 1, 1, false}, {math.MaxInt, tick, 1, true},
		{math.MaxInt, tick - 1, -1, false}, {math.MaxInt, math.MaxInt, math.MaxInt, true}, {math.MaxInt, tick - 1, math.MaxInt, false},
	} {
		c := whole(waiting)
		c.Sent = l.sent
		expectLost(t, c, l.now, l.wait, 1, l.want)
	}
}

// 21.2: nobody else is lost.
func TestLostOfStates(t *testing.T) {
	for _, state := range states() {
		for _, now := range []int{math.MinInt, 0, 40, 60, 1000, tick, math.MaxInt} {
			expectLost(t, whole(state), now, 20, 1, state == waiting && now >= 60)
		}
	}
}

// 21.2: from Ready on, as far as the grain goes, one that rests has rested.
func TestRested(t *testing.T) {
	for _, l := range []struct {
		now, grain int
		want       bool
	}{
		{32, 1, false}, {33, 1, true}, {34, 1, true}, {32, 0, false}, {33, 0, true}, {32, -3, false}, {33, -3, true}, {33, math.MinInt, true},
		{33, 8, false}, {39, 8, false}, {40, 8, true}, {33, 11, true}, {32, 11, false}, {63, 64, false}, {64, 64, true}, {0, 1, false}, {-1, 1, false},
		{math.MinInt, 1, false}, {tick, 1, true}, {math.MaxInt, 1, true}, {tick - 1, tick, false}, {tick, tick, true}, {tick, math.MaxInt, true}, {tick - 1, math.MaxInt, false},
	} {
		expectRested(t, whole(resting), l.now, l.grain, l.want)
	}
}

// 21.2: Ready is a time, whatever it is.
func TestRestedOfReady(t *testing.T) {
	for _, l := range []struct {
		ready, now int
		want       bool
	}{
		{0, 0, true}, {0, -1, true}, {0, math.MinInt, true}, {-5, 0, true}, {math.MinInt, math.MinInt, true}, {1, 0, false}, {1, -1, false}, {1, 1, true},
		{tick, tick, true}, {tick, tick - 1, false}, {tick + 1, tick, true}, {math.MaxInt, tick, true}, {math.MaxInt, tick - 1, false}, {math.MaxInt, math.MaxInt, true},
	} {
		c := whole(resting)
		c.Ready = l.ready
		expectRested(t, c, l.now, 1, l.want)
	}
}

// 21.2: nobody else has rested.
func TestRestedOfStates(t *testing.T) {
	for _, state := range states() {
		for _, now := range []int{math.MinInt, 0, 32, 33, 1000, tick, math.MaxInt} {
			expectRested(t, whole(state), now, 1, state == resting && now >= 33)
		}
	}
}

// 21.2: Lost and Rested of all times, the edges and those out of range too, as the rule says.
func TestTimes(t *testing.T) {
	for _, at := range numbers() {
		for _, now := range numbers() {
			for _, grain := range numbers() {
				w, r := whole(waiting), whole(resting)
				w.Sent, r.Ready = at, at
				expectRested(t, r, now, grain, past(now, at, grain))
				for _, wait := range []int{math.MinInt, -1, 0, 1, 20, tick - 1, tick, math.MaxInt} {
					expectLost(t, w, now, wait, grain, past(now, time(at)+time(wait), grain))
				}
			}
		}
	}
}

// drawn is a call at random, whatever it is.
func drawn(r *rand.Rand) call.Call {
	c := call.Call{Id: api.Id{Node: r.Intn(64), Inc: r.Intn(3), Seq: r.Intn(100)}, To: r.Intn(64), Program: r.Intn(16)}
	c.Att, c.State, c.Sent, c.Ready = r.Intn(7), r.Intn(4), r.Intn(60), r.Intn(60)
	c.Committed, c.Code, c.Value, c.Tries = r.Intn(3) == 0, r.Intn(17), r.Intn(100), r.Intn(7)
	for _, at := range []*int{&c.To, &c.Program, &c.Att, &c.State, &c.Sent, &c.Ready, &c.Code, &c.Value, &c.Tries} {
		if r.Intn(12) == 0 {
			*at = number(r)
		}
	}
	return c
}

// told are a configuration and facts at random, of which many are tried again.
func told(r *rand.Rand) (api.Config, policy.Facts) {
	c, f := config(), facts()
	c.Least, c.Attempts, c.Base, c.Most, c.Tokens = r.Intn(5), 1+r.Intn(5), r.Intn(12), r.Intn(40), 1+r.Intn(4)
	f.Code = []int{8, unavailable, unavailable, unavailable, number(r), r.Intn(17)}[r.Intn(6)]
	f.Att, f.Committed, f.Push, f.Have = r.Intn(7), r.Intn(2) == 0, r.Intn(23)-3, r.Intn(6000)
	f.Now, f.Jitter = r.Intn(60), r.Intn(1200)-100
	f.Deadline = f.Now + r.Intn(50) - 5
	return c, f
}

// begun is Begin by the rule.
func begun(c call.Call, now int) call.Call {
	if c.State != fresh && c.State != resting || c.Att >= attempts {
		return c
	}
	return call.Call{
		Id: c.Id, To: c.To, Program: c.Program, Att: c.Att + 1, State: waiting, Sent: time(now), Committed: c.Committed,
		Code: c.Code, Value: c.Value, Tries: c.Tries + 1,
	}
}

// named is a code by the rule: what is none is Unknown.
func named(n int) int {
	if n < 0 || n > 16 {
		return unknown
	}
	return n
}

// failed is Bad by the rule.
func failed(c call.Call, conf api.Config, f policy.Facts) (call.Call, int) {
	if c.State != waiting {
		return c, badCode
	}
	f.Att, f.Committed = c.Att, c.Committed
	why, ready := policy.Decide(conf, f)
	if why == again {
		return rests(c, ready), why
	}
	return ended(c, named(f.Code), 0), why
}

// expectByRule expects that each call does with c what the rule says, and the same again.
func expectByRule(t *testing.T, r *rand.Rand, c call.Call) int {
	t.Helper()
	n, wait, grain := number(r), r.Intn(30), r.Intn(9)
	now := c.Sent + r.Intn(60) - 10
	conf, f := told(r)
	end, good, sure := c, c, c
	if c.State != over {
		end = ended(c, named(n), 0)
	}
	if c.State == waiting {
		good, sure.Committed = ended(c, ok, held(n, 0, value)), true
	}
	after, why := failed(c, conf, f)
	for range 2 {
		expectBegin(t, c, n, begun(c, n))
		expectEnds(t, c, n, end)
		expectGood(t, c, n, good)
		expectTaken(t, c, sure)
		expectBad(t, c, conf, f, after, why)
		expectLost(t, c, now, wait, grain, c.State == waiting && past(now, time(c.Sent)+wait, grain))
		expectRested(t, c, now, grain, c.State == resting && past(now, c.Ready, grain))
	}
	return why
}

// 21.1, 21.2, at random: each reason is met.
func TestAtRandom(t *testing.T) {
	r := rand.New(rand.NewSource(21))
	var met [tooLate + 1]int
	for range 100000 {
		met[expectByRule(t, r, drawn(r))]++
	}
	for why, n := range met {
		if n < 100 {
			t.Errorf("%d is met %d times alone", why, n)
		}
	}
}

// deeds are all that can be done with a call, with several numbers each.
func deeds() []func(c call.Call) call.Call {
	bad := func(conf api.Config, f policy.Facts) func(c call.Call) call.Call {
		return func(c call.Call) call.Call {
			c, _ = call.Bad(c, conf, f)
			return c
		}
	}
	many, fatal := config(), facts()
	many.Attempts, fatal.Code = math.MaxInt, internal
	return []func(c call.Call) call.Call{
		func(c call.Call) call.Call { return call.Begin(c, 50) },
		func(c call.Call) call.Call { return call.Ends(c, 4) },
		func(c call.Call) call.Call { return call.Good(c, 7) },
		call.Taken,
		bad(config(), facts()),
		bad(many, facts()),
		bad(config(), fatal),
	}
}

// expectSound expects of each deed what 21.3 says: who is over stays so, attempts are few, and none comes behind one that was taken for good.
func expectSound(t *testing.T, ahead, c call.Call) {
	t.Helper()
	if ahead.State == over && c != ahead {
		t.Fatalf("%+v was over, and became %+v", ahead, c)
	}
	if c.Att != c.Tries || c.Att < ahead.Att || c.Att > attempts {
		t.Fatalf("%+v became %+v", ahead, c)
	}
	if ahead.Committed && (!c.Committed || c.State != waiting && c.State != over || c.Att != ahead.Att) {
		t.Fatalf("%+v was taken for good, and became %+v", ahead, c)
	}
	if c.State < fresh || c.State > over || c.State != over && (c.Code != ok || c.Value != 0) || c.Code != ok && c.Value != 0 || c.State != resting && c.Ready != 0 {
		t.Fatalf("%+v became %+v", ahead, c)
	}
}

// 21.3, by all scripts of six deeds, from a fresh call on.
func TestScripts(t *testing.T) {
	list := deeds()
	var play func(c call.Call, left int)
	play = func(c call.Call, left int) {
		if left == 0 {
			return
		}
		for _, deed := range list {
			next := deed(c)
			expectSound(t, c, next)
			play(next, left-1)
		}
	}
	play(call.Call{To: 1}, 6)
}

// 21.3, by long scripts at random.
func TestLongScripts(t *testing.T) {
	r := rand.New(rand.NewSource(213))
	list := deeds()
	for range 5000 {
		c := call.Call{To: 1}
		for range 40 {
			// Beginnings and failures are done more often than ends, so that attempts add up.
			i := []int{0, 0, 0, 5, 5, 5, 4, r.Intn(len(list))}[r.Intn(8)]
			next := list[i](c)
			expectSound(t, c, next)
			c = next
		}
	}
}

// 21.3: whoever is over stays so, whatever it is and whatever is done.
func TestOverStays(t *testing.T) {
	r := rand.New(rand.NewSource(214))
	for range 20000 {
		c := drawn(r)
		c.State = over
		for i, deed := range deeds() {
			if got := deed(c); got != c {
				t.Fatalf("behind the deed %d %+v is %+v", i, c, got)
			}
		}
		expectByRule(t, r, c)
	}
}

// 21.3: when each attempt fails, there are as many as Attempts, and never more than five.
func TestAttemptsEnd(t *testing.T) {
	for most := 1; most <= 8; most++ {
		conf, f := config(), facts()
		conf.Attempts, f.Deadline = most, tick
		c := call.Call{To: 1}
		for now := range 100 {
			f.Now = now
			c, _ = call.Bad(call.Begin(c, now), conf, f)
		}
		state := over
		if most > attempts {
			// The policy would go on, but nothing begins any more.
			state = resting
		}
		if c.Tries != min(most, attempts) || c.Att != c.Tries || c.State != state {
			t.Errorf("of %d attempts: %+v", most, c)
		}
	}
}

// 21.3: one that was taken for good, and fails, is over, at whatever attempt and with whatever code.
func TestTakenFails(t *testing.T) {
	for att := 1; att <= attempts; att++ {
		for n := range 17 {
			conf, f := config(), facts()
			conf.Attempts, f.Code = attempts, n
			c := call.Call{Att: att, State: waiting, Sent: 40, Tries: att}
			got, why := call.Bad(call.Taken(c), conf, f)
			if got != (call.Call{Att: att, State: over, Sent: 40, Committed: true, Code: n, Tries: att}) || why == again {
				t.Errorf("the attempt %d with %d: %+v, %d", att, n, got, why)
			}
		}
	}
}

// Ways: calls are passed by value, so that whoever has one keeps it as it was.
func TestCallsStay(t *testing.T) {
	for _, state := range states() {
		c := whole(state)
		for _, deed := range deeds() {
			deed(c)
		}
		call.Key(c)
		call.Lost(c, 100, 1, 1)
		call.Rested(c, 100, 1)
		if c != whole(state) {
			t.Errorf("%+v became %+v", whole(state), c)
		}
	}
}

// R4: the programs of a configuration that is handed in stay.
func TestProgramsStay(t *testing.T) {
	conf := config()
	conf.Programs = [][]api.Op{{{Kind: api.Work, A: 2}}, {{Kind: api.Answer, A: 5}}}
	call.Bad(whole(waiting), conf, facts())
	if len(conf.Programs) != 2 || conf.Programs[0][0] != (api.Op{Kind: api.Work, A: 2}) || conf.Programs[1][0] != (api.Op{Kind: api.Answer, A: 5}) {
		t.Errorf("%+v", conf)
	}
}

// The chapter's example.
func TestExample(t *testing.T) {
	c := call.Begin(call.Call{Id: api.Id{Seq: 3}, To: 1}, 90)
	c, why := call.Bad(c, config(), facts())
	if why != again || c.State != resting || c.Ready != 110 {
		t.Fatal(c, why)
	}
	c = call.Good(call.Begin(c, 110), 7)
	if c != (call.Call{Id: api.Id{Seq: 3}, To: 1, Att: 2, State: over, Sent: 110, Code: ok, Value: 7, Tries: 2}) {
		t.Error(c)
	}
}
