package sender_test

import (
	"math"
	"math/rand"
	"reflect"
	"slices"
	"testing"

	"hourglass/admit"
	"hourglass/api"
	"hourglass/call"
	"hourglass/owner"
	"hourglass/packet"
	"hourglass/sender"
)

// The kinds, the states, the codes and the greatest numbers are written out, so that a test tells when they are taken wrongly.
const (
	kindCall   = 1
	kindReply  = 2
	kindCancel = 3
	kindKeep   = 4
	kindPush   = 5

	fresh   = 0
	waiting = 1
	resting = 2
	over    = 3

	ok          = 0
	cancelled   = 1
	unknown     = 2
	invalid     = 3
	deadline    = 4
	exhausted   = 8
	internal    = 13
	unavailable = 14

	noPush = -2
	never  = -1

	attempts  = 5
	tick      = 1 << 50
	mostValue = 1<<31 - 1
)

// states are all that there are, and some that there are not.
func states() []int {
	return []int{math.MinInt, -1, fresh, waiting, resting, over, 4, 256 + waiting, 1<<32 + waiting, 1<<32 + over, math.MaxInt}
}

// numbers are ordinary ones, the edges with their neighbours, and numbers out of range.
func numbers() []int {
	return []int{
		math.MinInt, math.MinInt + 1, -tick, -1 << 32, -mostValue, -3, -2, -1, 0, 1, 2, 3, 4, 5, 8, 13, 14, 16, 17, 63, 64, 1000,
		mostValue - 1, mostValue, mostValue + 1, 1 << 32, tick - 1, tick, tick + 1, math.MaxInt - 1, math.MaxInt,
	}
}

// number is a number at random, of whatever size.
func number(r *rand.Rand) int {
	return int(r.Uint64()) >> r.Intn(64)
}

// held is the nearest number to n that is from least to most.
func held(n, least, most int) int {
	switch {
	case n < least:
		return least
	case n > most:
		return most
	}
	return n
}

// time is the nearest one that may be.
func time(n int) int { return held(n, 0, tick) }

// right is a code, and of none that there is unknown.
func right(n int) int {
	if n != held(n, 0, 16) {
		return unknown
	}
	return n
}

// id is a name of the node 0.
func id(seq int) api.Id { return api.Id{Seq: seq} }

// config is one that may be; of its settings those that are asked are all apart.
func config() api.Config {
	return api.Config{
		Nodes: 64, Skew: 1, Lease: 70, Grain: 0, Least: 5, Hops: 7, Cap: 6, Fan: 2, Attempts: 3, Base: 1000, Most: 1600, Wait: 90, Tokens: 10,
		Programs: make([][]api.Op, 2),
	}
}

// handler is an attempt that may be, with something in each field, of which no number is there twice.
func handler() owner.Owner {
	return owner.Owner{
		Key: api.Key{Id: api.Id{Node: 21, Inc: 22, Seq: 23}, Att: 4}, Root: api.Id{Node: 25, Inc: 26, Seq: 27},
		Parent: api.Key{Id: api.Id{Node: 28, Inc: 29, Seq: 30}, Att: 3}, From: 31, Hop: 6, Deadline: 110, Until: 95,
		Program: 9, PC: 12, Done: 14,
		Calls: []call.Call{{Id: id(40), To: 41, Program: 11, Att: 1, State: waiting, Sent: 8}, {Id: id(42), State: over, Value: 43}},
	}
}

// root is one with these calls, with the deadline 100.
func root(calls ...call.Call) owner.Owner {
	name := api.Id{Node: 1, Seq: 1}
	return owner.Owner{Key: api.Key{Id: name}, Root: name, From: 1, Deadline: 100, Until: 50, Calls: calls}
}

// whole is a call in a state, with something in each field, so that a test tells which of them change.
func whole(state int) call.Call {
	return call.Call{
		Id: api.Id{Node: 3, Inc: 18, Seq: 17}, To: 33, Program: 13, Att: 2, State: state, Sent: 19, Ready: 20, Code: 10, Value: 24, Tries: 2,
	}
}

// good is a call that is over, with a value.
func good(value int) call.Call { return call.Call{Id: id(value), State: over, Value: value} }

// bad is a call that is over, with a code, and a value that nobody is told.
func bad(code int) call.Call { return call.Call{Id: id(1), State: over, Code: code, Value: 6} }

// copied is an owner with calls of its own.
func copied(o owner.Owner) owner.Owner {
	o.Calls = slices.Clone(o.Calls)
	return o
}

func expectSend(t *testing.T, c api.Config, me int, o owner.Owner, x call.Call, now int, want call.Call, asks api.Packet) {
	t.Helper()
	was := copied(o)
	if got, p := sender.Send(c, me, o, x, now); got != want || p != asks {
		t.Errorf("Send(%+v, %d, %+v, %+v, %d) = %+v, %+v, not %+v, %+v", c, me, o, x, now, got, p, want, asks)
	}
	if !reflect.DeepEqual(o, was) {
		t.Errorf("Send changed %+v to %+v", was, o)
	}
}

func expectFailed(t *testing.T, c api.Config, me int, o owner.Owner, x call.Call, now, have, n, push int, want call.Call, left int) {
	t.Helper()
	was := copied(o)
	if got, tokens := sender.Failed(c, me, o, x, now, have, n, push); got != want || tokens != left {
		t.Errorf("Failed(%+v, %d, %+v, %+v, %d, %d, %d, %d) = %+v, %d, not %+v, %d", c, me, o, x, now, have, n, push, got, tokens, want, left)
	}
	if !reflect.DeepEqual(o, was) {
		t.Errorf("Failed changed %+v to %+v", was, o)
	}
}

func expectSettled(t *testing.T, o owner.Owner, now, code, value int, settled bool) {
	t.Helper()
	was := copied(o)
	if n, v, is := sender.Settled(o, now); n != code || v != value || is != settled {
		t.Errorf("Settled(%+v, %d) = %d, %d, %v, not %d, %d, %v", o, now, n, v, is, code, value, settled)
	}
	if !reflect.DeepEqual(o, was) {
		t.Errorf("Settled changed %+v to %+v", was, o)
	}
}

func expectPacket(t *testing.T, what string, got, want api.Packet) {
	t.Helper()
	if got != want {
		t.Errorf("%s: %+v, not %+v", what, got, want)
	}
}

// asked is the Call of which nothing but the owner's and the call's own things are told: at 10, with 100 left.
func asked() api.Packet {
	return api.Packet{
		Kind: kindCall, From: 32, To: 33, Key: api.Key{Id: api.Id{Node: 3, Inc: 18, Seq: 17}, Att: 3}, Hop: 7, Stamp: 10, Timeout: "100u", Until: 95,
		Program: 13, Root: api.Id{Node: 25, Inc: 26, Seq: 27}, Parent: api.Key{Id: api.Id{Node: 21, Inc: 22, Seq: 23}, Att: 4},
	}
}

// begun is a whole call, whose next attempt is sent at 10.
func begun() call.Call {
	x := whole(waiting)
	x.Att, x.Tries, x.Sent, x.Ready = 3, 3, 10, 0
	return x
}

// ended is a call that is over, with a code, and nothing else.
func ended(x call.Call, code int) call.Call {
	x.State, x.Code, x.Value, x.Ready = over, code, 0, 0
	return x
}

func TestSendTellsTheAttemptAndItsPacket(t *testing.T) {
	// Of the example: at 10, of the deadline 110, the first attempt goes along with 100u.
	first := call.Call{Id: id(2), To: 3, Program: 1}
	sent := call.Call{Id: id(2), To: 3, Program: 1, Att: 1, State: waiting, Sent: 10, Tries: 1}
	o := root()
	o.Deadline = 110
	expectSend(t, config(), 1, o, first, 10, sent, api.Packet{
		Kind: kindCall, From: 1, To: 3, Key: api.Key{Id: id(2), Att: 1}, Hop: 1, Stamp: 10, Timeout: "100u", Until: 50,
		Program: 1, Root: o.Root, Parent: api.Key{Id: o.Root},
	})
	for _, state := range []int{fresh, resting} {
		expectSend(t, config(), 32, handler(), whole(state), 10, begun(), asked())
	}
	taken, still := whole(resting), begun()
	taken.Committed, still.Committed = true, true
	expectSend(t, config(), 32, handler(), taken, 10, still, asked())
}

func TestSendTellsEachFieldOfItsOwn(t *testing.T) {
	for _, n := range numbers() {
		p, o, x, y := asked(), handler(), whole(resting), begun()
		p.From = n
		expectSend(t, config(), n, o, x, 10, y, p)
		p = asked()
		x.To, y.To, p.To = n, n, n
		x.Program, y.Program, p.Program = n-1, n-1, n-1
		expectSend(t, config(), 32, o, x, 10, y, p)
		x.Id, y.Id, p.Key.Id = api.Id{Node: n, Inc: 1, Seq: 2}, api.Id{Node: n, Inc: 1, Seq: 2}, api.Id{Node: n, Inc: 1, Seq: 2}
		expectSend(t, config(), 32, o, x, 10, y, p)
		x.Id, y.Id, p.Key.Id = api.Id{Node: 3, Inc: n, Seq: n - 1}, api.Id{Node: 3, Inc: n, Seq: n - 1}, api.Id{Node: 3, Inc: n, Seq: n - 1}
		expectSend(t, config(), 32, o, x, 10, y, p)
		o.Root, p.Root = api.Id{Node: n, Inc: n - 1, Seq: n - 2}, api.Id{Node: n, Inc: n - 1, Seq: n - 2}
		expectSend(t, config(), 32, o, x, 10, y, p)
		o.Key = api.Key{Id: api.Id{Node: n - 1, Inc: n - 2, Seq: n - 3}, Att: n}
		p.Parent = o.Key
		expectSend(t, config(), 32, o, x, 10, y, p)
	}
}

func TestSendTellsNothingElseOfTheOwner(t *testing.T) {
	for _, n := range numbers() {
		o := handler()
		o.Parent, o.From, o.Program, o.PC, o.Done = api.Key{Id: api.Id{Node: n, Inc: n, Seq: n}, Att: n}, n, n, n, n
		expectSend(t, config(), 32, o, whole(resting), 10, begun(), asked())
	}
	for _, calls := range [][]call.Call{nil, {}, {whole(over)}, {begun(), whole(resting)}} {
		o := handler()
		o.Calls = calls
		expectSend(t, config(), 32, o, whole(resting), 10, begun(), asked())
	}
	// A lease that has run out is another one's business: its time goes along.
	o, p := handler(), asked()
	o.Until, p.Until = 9, 9
	expectSend(t, config(), 32, o, whole(resting), 10, begun(), p)
}

func TestSendHoldsTimes(t *testing.T) {
	for _, n := range numbers() {
		o, p := handler(), asked()
		o.Until, p.Until = n, time(n)
		expectSend(t, config(), 32, o, whole(resting), 10, begun(), p)
	}
	o := handler()
	o.Deadline = 110
	for _, now := range []int{math.MinInt, -tick, -1, 0} {
		p, y := asked(), begun()
		p.Stamp, p.Timeout, y.Sent = 0, "110u", 0
		expectSend(t, config(), 32, o, whole(resting), now, y, p)
	}
	for _, d := range []int{tick, tick + 1, math.MaxInt} {
		o.Deadline = d
		p, y := asked(), begun()
		p.Stamp, p.Timeout, y.Sent = tick-7, "7u", tick-7
		expectSend(t, config(), 32, o, whole(resting), tick-7, y, p)
		for _, now := range []int{tick, tick + 1, math.MaxInt} {
			expectSend(t, config(), 32, o, whole(resting), now, ended(whole(resting), deadline), api.Packet{})
		}
	}
}

func TestSendTellsBudgetsAsText(t *testing.T) {
	for _, e := range []struct {
		left    int
		timeout string
	}{
		{5, "5u"}, {99999999, "99999999u"}, {100000000, "100000m"}, {100000999, "100000m"}, {99999999999, "99999999m"},
		{100000000000, "100000S"}, {99999999999999, "99999999S"}, {100000000000000, "1666666M"}, {tick - 10, "18764998M"},
	} {
		o, p := handler(), asked()
		o.Deadline, p.Timeout = 10+e.left, e.timeout
		expectSend(t, config(), 32, o, whole(fresh), 10, begun(), p)
	}
}

func TestSendLeavesWhatCannotBegin(t *testing.T) {
	late := handler()
	late.Deadline, late.Hop = 0, 99
	for _, state := range states() {
		for _, att := range []int{math.MinInt, -1, 0, 2, 3, attempts - 1, attempts, attempts + 1, math.MaxInt} {
			x := whole(state)
			x.Att = att
			idle := state == fresh || state == resting
			if idle && att < attempts {
				expectSend(t, config(), 32, late, x, 10, ended(x, exhausted), api.Packet{})
				continue
			}
			expectSend(t, config(), 32, handler(), x, 10, x, api.Packet{})
			// Nothing of it begins, so that neither hops nor time are asked.
			expectSend(t, config(), 32, late, x, 10, x, api.Packet{})
		}
	}
}

func TestSendEndsWhatIsTooDeep(t *testing.T) {
	c, gone := config(), handler()
	gone.Deadline = 10
	for _, hop := range []int{math.MinInt, -1, 0, 1, 5, 6, 7, 8, 16, 17, math.MaxInt - 1, math.MaxInt} {
		o, p := handler(), asked()
		o.Hop, gone.Hop, p.Hop = hop, hop, hop+1
		if hop < 7 {
			expectSend(t, c, 32, o, whole(fresh), 10, begun(), p)
			expectSend(t, c, 32, gone, whole(fresh), 10, ended(whole(fresh), deadline), api.Packet{})
			continue
		}
		expectSend(t, c, 32, o, whole(fresh), 10, ended(whole(fresh), exhausted), api.Packet{})
		// Hops are asked ahead of time.
		expectSend(t, c, 32, gone, whole(fresh), 10, ended(whole(fresh), exhausted), api.Packet{})
	}
	for _, n := range numbers() {
		o, p := handler(), asked()
		c.Hops = n
		o.Hop = n
		expectSend(t, c, 32, o, whole(resting), 10, ended(whole(resting), exhausted), api.Packet{})
		if n > math.MinInt {
			o.Hop, p.Hop = n-1, n
			expectSend(t, c, 32, o, whole(resting), 10, begun(), p)
		}
	}
}

func TestSendEndsWhatIsTooLate(t *testing.T) {
	c := config()
	for _, e := range []struct {
		least, deadline, now int
		enough               bool
	}{
		{5, 110, 104, true}, {5, 110, 105, true}, {5, 110, 106, false}, {5, 110, 109, false}, {5, 110, 110, false}, {5, 110, 111, false},
		{1, 110, 109, true}, {1, 110, 110, false}, {0, 110, 109, true}, {0, 110, 110, false}, {0, 110, 111, false},
		{math.MinInt, 110, 109, true}, {-1, 110, 110, false}, {5, 0, 0, false}, {0, 0, 0, false}, {0, -1, -2, false},
		{5, math.MinInt, math.MinInt, false}, {tick, tick, 0, true}, {tick, tick, 1, false}, {math.MaxInt, tick, 0, true}, {math.MaxInt, tick - 1, 0, false},
	} {
		o := handler()
		c.Least, o.Deadline = e.least, e.deadline
		y, p := sender.Send(c, 32, o, whole(resting), e.now)
		if e.enough != (y.State == waiting) || e.enough != (p.Kind == kindCall) {
			t.Errorf("%+v: %+v, %+v", e, y, p)
		}
		if !e.enough {
			expectSend(t, c, 32, o, whole(resting), e.now, ended(whole(resting), deadline), api.Packet{})
		}
	}
}

func TestFailedLeavesWhoDoesNotWait(t *testing.T) {
	for _, state := range states() {
		if state == waiting {
			continue
		}
		for _, have := range numbers() {
			expectFailed(t, config(), 3, root(), whole(state), 10, have, unavailable, 7, whole(state), have)
		}
	}
}

// rest is a whole call that rests up to a time.
func rest(ready int) call.Call {
	x := whole(resting)
	x.Ready = ready
	return x
}

// long is a root of which each wait of config is well ahead of the deadline.
func long() owner.Owner {
	o := root()
	o.Deadline = 100000
	return o
}

func TestFailedRests(t *testing.T) {
	c, o := config(), long()
	// The second attempt waits for at most 1600, of the jitter 538 for 800 times 538 by 1000 less.
	expectFailed(t, c, 3, o, whole(waiting), 10, 10000, unavailable, noPush, rest(10+1600-430), 9000)
	expectFailed(t, c, 3, o, whole(waiting), 10, 10000, exhausted, noPush, rest(10+1600-430), 9000)
	for _, push := range []int{0, 1, 7, 99985} {
		expectFailed(t, c, 3, o, whole(waiting), 10, 10000, unavailable, push, rest(10+push), 9000)
	}
	expectFailed(t, c, 3, o, whole(waiting), -5, 10000, unavailable, 7, rest(7), 9000)
	o.Deadline = math.MaxInt
	expectFailed(t, c, 3, o, whole(waiting), tick-12, 10000, unavailable, 7, rest(tick-5), 9000)
}

// jitter is the chapters' rule, in numbers of 64 bits.
func jitter(node, seq, attempt int) int {
	const bits = 1<<32 - 1
	h := (uint64(node)*2654435761 ^ uint64(seq)*40503 ^ uint64(attempt)*2246822519) & bits
	h ^= h >> 15
	return int(h % 1001)
}

func TestFailedJitters(t *testing.T) {
	c, o := config(), long()
	c.Attempts = attempts
	waits := map[int]int{}
	for me := range 8 {
		for seq := range 8 {
			for att := 1; att < attempts; att++ {
				x := whole(waiting)
				x.Id.Seq, x.Att, x.Tries = seq, att, att
				step := 1600
				if att == 1 {
					step = 1000
				}
				y := x
				y.State, y.Ready = resting, 10+step-step/2*jitter(me, seq, att)/1000
				expectFailed(t, c, me, o, x, 10, 10000, unavailable, noPush, y, 9000)
				waits[y.Ready]++
			}
		}
	}
	if len(waits) < 100 {
		t.Errorf("%d waits alone", len(waits))
	}
	// The node that waits is the one that is told, not one that the call or the owner names.
	x, y := whole(waiting), rest(10+1600-800*jitter(63, 17, 2)/1000)
	x.Id.Node, y.Id.Node, o.Key.Id.Node, o.From = 5, 5, 6, 7
	expectFailed(t, c, 63, o, x, 10, 10000, unavailable, noPush, y, 9000)
}

func TestFailedEnds(t *testing.T) {
	c, o := config(), long()
	for code := -2; code <= 18; code++ {
		if code == unavailable || code == exhausted {
			continue
		}
		expectFailed(t, c, 3, o, whole(waiting), 10, 10000, code, 7, ended(whole(waiting), right(code)), 9000)
	}
	for _, code := range []int{unavailable, exhausted} {
		taken := whole(waiting)
		taken.Committed = true
		expectFailed(t, c, 3, o, taken, 10, 10000, code, 7, ended(taken, code), 9000)
		spent := whole(waiting)
		spent.Att = 3
		expectFailed(t, c, 3, o, spent, 10, 10000, code, 7, ended(spent, code), 9000)
		expectFailed(t, c, 3, o, whole(waiting), 10, 10000, code, never, ended(whole(waiting), code), 9000)
		expectFailed(t, c, 3, o, whole(waiting), 10, 6000, code, 7, ended(whole(waiting), code), 5000)
		late := o
		late.Deadline = 22
		expectFailed(t, c, 3, late, whole(waiting), 10, 10000, code, 7, rest(17), 9000)
		late.Deadline = 21
		expectFailed(t, c, 3, late, whole(waiting), 10, 10000, code, 7, ended(whole(waiting), code), 9000)
	}
	// A root's lease, or an owner's hop, is not asked of who tries again.
	o.Until, o.Hop = 0, 99
	expectFailed(t, c, 3, o, whole(waiting), 10, 10000, unavailable, 7, rest(17), 9000)
}

func TestFailedCostsATokenFirst(t *testing.T) {
	c, o := config(), long()
	for _, e := range []struct {
		tokens, have, left int
		again              bool
	}{
		{10, 10000, 9000, true}, {10, 6002, 5002, true}, {10, 6001, 5001, true}, {10, 6000, 5000, false}, {10, 5001, 4001, false},
		{10, 1000, 0, false}, {10, 999, 0, false}, {10, 0, 0, false}, {10, -1, 0, false}, {10, math.MinInt, 0, false},
		{10, 10001, 9000, true}, {10, math.MaxInt, 9000, true}, {1, 1000, 0, false}, {2, 2000, 1000, false}, {3, 3000, 2000, true},
		{0, 1000, 0, false}, {-1, math.MaxInt, 0, false}, {1000, math.MaxInt, 999000, true}, {math.MaxInt, 501001, 500001, true}, {1001, 501000, 500000, false},
	} {
		c.Tokens = e.tokens
		want := ended(whole(waiting), unavailable)
		if e.again {
			want = rest(17)
		}
		expectFailed(t, c, 3, o, whole(waiting), 10, e.have, unavailable, 7, want, e.left)
		// Whatever the failure, it costs as much.
		expectFailed(t, c, 3, o, whole(waiting), 10, e.have, invalid, noPush, ended(whole(waiting), invalid), e.left)
	}
}

func TestAnswersTellTheAttemptAndWhatIsSaidAlone(t *testing.T) {
	for _, n := range numbers() {
		for _, o := range []owner.Owner{{}, root(), handler(), {Key: api.Key{Id: api.Id{Node: n, Inc: n - 1, Seq: n - 2}, Att: n - 3}, From: n - 4, Hop: n, Until: n}} {
			was := copied(o)
			expectPacket(t, "Reply", sender.Reply(32, o, n, n-1), api.Packet{Kind: kindReply, From: 32, To: o.From, Key: o.Key, Code: n, Value: n - 1})
			expectPacket(t, "Reply", sender.Reply(n, o, ok, 9), api.Packet{Kind: kindReply, From: n, To: o.From, Key: o.Key, Value: 9})
			expectPacket(t, "More", sender.More(n, o), api.Packet{Kind: kindReply, From: n, To: o.From, Key: o.Key, More: true})
			expectPacket(t, "Refuse", sender.Refuse(32, o, n), api.Packet{Kind: kindPush, From: 32, To: o.From, Key: o.Key, Delay: n})
			expectPacket(t, "Refuse", sender.Refuse(n, o, never), api.Packet{Kind: kindPush, From: n, To: o.From, Key: o.Key, Delay: never})
			if !reflect.DeepEqual(o, was) {
				t.Errorf("an answer changed %+v to %+v", was, o)
			}
		}
	}
}

// cancels and keeps are the chapter's rule.
func cancels(me int, o owner.Owner) []api.Packet {
	var l []api.Packet
	for k := range o.Calls {
		if x := o.Calls[k]; x.State == waiting {
			l = append(l, api.Packet{Kind: kindCancel, From: me, To: x.To, Key: api.Key{Id: x.Id, Att: x.Att}})
		}
	}
	return l
}

func keeps(me int, o owner.Owner) []api.Packet {
	l := cancels(me, o)
	for k := range l {
		l[k].Kind, l[k].Until = kindKeep, time(o.Until)
	}
	return l
}

func expectAll(t *testing.T, me int, o owner.Owner) {
	t.Helper()
	was := copied(o)
	if got, want := sender.Cancels(me, o), cancels(me, o); !slices.Equal(got, want) {
		t.Errorf("Cancels(%d, %+v) = %+v, not %+v", me, o, got, want)
	}
	if got, want := sender.Keeps(me, o), keeps(me, o); !slices.Equal(got, want) {
		t.Errorf("Keeps(%d, %+v) = %+v, not %+v", me, o, got, want)
	}
	if !reflect.DeepEqual(o, was) {
		t.Errorf("%+v was changed to %+v", was, o)
	}
}

func TestThoseThatWaitAreTold(t *testing.T) {
	a, b := whole(waiting), whole(waiting)
	b.Id, b.To, b.Att = id(4), 5, 1
	o := handler()
	o.Calls = []call.Call{whole(over), b, whole(resting), whole(fresh), a}
	cancelB := api.Packet{Kind: 3, From: 32, To: 5, Key: api.Key{Id: id(4), Att: 1}}
	cancelA := api.Packet{Kind: 3, From: 32, To: 33, Key: api.Key{Id: api.Id{Node: 3, Inc: 18, Seq: 17}, Att: 2}}
	if got := sender.Cancels(32, o); !slices.Equal(got, []api.Packet{cancelB, cancelA}) {
		t.Errorf("Cancels: %+v", got)
	}
	keepB, keepA := cancelB, cancelA
	keepB.Kind, keepB.Until, keepA.Kind, keepA.Until = 4, 95, 4, 95
	if got := sender.Keeps(32, o); !slices.Equal(got, []api.Packet{keepB, keepA}) {
		t.Errorf("Keeps: %+v", got)
	}
	// As the calls stand, not as their names rise; of one that stands there twice two are told.
	o.Calls = []call.Call{a, b, a}
	if got := sender.Cancels(32, o); !slices.Equal(got, []api.Packet{cancelA, cancelB, cancelA}) {
		t.Errorf("Cancels: %+v", got)
	}
	if got := sender.Keeps(32, o); !slices.Equal(got, []api.Packet{keepA, keepB, keepA}) {
		t.Errorf("Keeps: %+v", got)
	}
}

func TestThoseThatDoNotWaitAreNotTold(t *testing.T) {
	for _, calls := range [][]call.Call{nil, {}, {whole(over)}, {whole(fresh), whole(resting)}} {
		o := handler()
		o.Calls = calls
		if a, b := sender.Cancels(32, o), sender.Keeps(32, o); len(a) != 0 || len(b) != 0 {
			t.Errorf("of %+v: %+v, %+v", calls, a, b)
		}
	}
	for _, state := range states() {
		o := handler()
		o.Calls = []call.Call{whole(state), whole(waiting), whole(state)}
		expectAll(t, 32, o)
	}
}

func TestThoseThatWaitAreToldAsTheyStand(t *testing.T) {
	for _, n := range numbers() {
		x, o := whole(waiting), handler()
		x.Id, x.To, x.Att, x.Committed = api.Id{Node: n, Inc: n - 1, Seq: n - 2}, n-3, n-4, true
		o.Calls, o.Until, o.From = append(o.Calls, x), n, n
		expectAll(t, n, o)
		expectAll(t, 32, root(x))
	}
	r := rand.New(rand.NewSource(261))
	for range 5000 {
		o := handler()
		o.Until, o.Calls = number(r), nil
		for range r.Intn(9) {
			x := whole(r.Intn(4))
			x.Id.Seq, x.To, x.Att = r.Intn(5), r.Intn(5), r.Intn(5)
			o.Calls = append(o.Calls, x)
		}
		expectAll(t, r.Intn(64), o)
	}
}

func TestListsAreNewAndWhatLiesBehindThemStays(t *testing.T) {
	l := []call.Call{whole(waiting), whole(waiting), whole(waiting)}
	o := handler()
	o.Calls = l[:2]
	for _, tell := range []func(int, owner.Owner) []api.Packet{sender.Cancels, sender.Keeps} {
		a, b := tell(32, o), tell(32, o)
		a[0], a[1] = api.Packet{}, api.Packet{}
		a = append(a, api.Packet{Kind: 9})
		if len(b) != 2 || b[0].To != 33 || b[1].To != 33 || len(tell(32, o)) != 2 {
			t.Errorf("%+v, behind a change of %+v", b, a)
		}
	}
	sender.Settled(o, 0)
	sender.Send(config(), 32, o, whole(fresh), 10)
	sender.Failed(config(), 32, o, o.Calls[0], 10, 0, ok, 0)
	if !slices.Equal(l, []call.Call{whole(waiting), whole(waiting), whole(waiting)}) {
		t.Errorf("%+v", l)
	}
}

func TestSettledTellsWhatRootsEndWith(t *testing.T) {
	expectSettled(t, root(good(6)), 0, ok, 6, true)
	expectSettled(t, root(good(0)), 0, ok, 0, true)
	expectSettled(t, root(good(6), good(7), good(8)), 0, ok, 21, true)
	expectSettled(t, root(good(mostValue), good(3)), 0, ok, 2, true)
	expectSettled(t, root(good(-5), good(3)), 0, ok, 3, true)
	expectSettled(t, root(good(mostValue+1)), 0, ok, mostValue, true)
	for code := -2; code <= 18; code++ {
		switch code {
		case ok:
			expectSettled(t, root(bad(code)), 100, ok, 6, true)
		case cancelled:
			expectSettled(t, root(bad(code)), 100, internal, 0, true)
		default:
			expectSettled(t, root(bad(code)), 100, right(code), 0, true)
		}
	}
}

func TestSettledTellsTheCodeThatSaysMost(t *testing.T) {
	for _, e := range []struct{ a, b, want int }{
		{ok, unavailable, unavailable}, {unavailable, exhausted, exhausted}, {exhausted, invalid, invalid}, {internal, invalid, internal},
		{internal, 15, 15}, {deadline, 16, deadline}, {deadline, ok, deadline}, {deadline, cancelled, internal}, {cancelled, ok, internal},
		{cancelled, 16, internal}, {cancelled, 15, internal}, {unavailable, 99, unknown},
	} {
		expectSettled(t, root(bad(e.a), bad(e.b)), 100, e.want, 0, true)
		expectSettled(t, root(bad(e.b), good(9), bad(e.a)), 100, e.want, 0, true)
	}
}

func TestSettledIsNotEarly(t *testing.T) {
	late := bad(deadline)
	for _, e := range []struct {
		deadline, now int
		settled       bool
	}{
		{100, 0, false}, {100, 98, false}, {100, 99, false}, {100, 100, true}, {100, 101, true}, {100, math.MinInt, false}, {100, math.MaxInt, true},
		{0, 0, true}, {0, math.MinInt, true}, {-1, -2, true}, {math.MinInt, math.MinInt, true}, {1, 0, false}, {1, -1, false},
		{tick, tick - 1, false}, {tick, tick, true}, {tick + 1, tick, true}, {math.MaxInt, tick, true}, {math.MaxInt, tick - 1, false}, {math.MaxInt, tick + 1, true},
	} {
		code := 0
		if e.settled {
			code = deadline
		}
		for _, calls := range [][]call.Call{{late}, {good(6), late}, {late, bad(unavailable)}} {
			o := root(calls...)
			o.Deadline = e.deadline
			expectSettled(t, o, e.now, code, 0, e.settled)
		}
		// All else a root may end with whenever that is.
		o := root(good(6))
		o.Deadline = e.deadline
		expectSettled(t, o, e.now, ok, 6, true)
		o.Calls = []call.Call{late, bad(cancelled)}
		expectSettled(t, o, e.now, internal, 0, true)
		o.Calls = []call.Call{bad(unavailable), good(6)}
		expectSettled(t, o, e.now, unavailable, 0, true)
	}
	// Its lease is not asked.
	o := root(late)
	for _, until := range numbers() {
		o.Until = until
		expectSettled(t, o, 99, 0, 0, false)
		expectSettled(t, o, 100, deadline, 0, true)
	}
}

func TestSettledAreRootsOfWhichAllIsOver(t *testing.T) {
	expectSettled(t, owner.Owner{}, 100, 0, 0, false)
	expectSettled(t, root(), 100, 0, 0, false)
	expectSettled(t, root([]call.Call{}...), 100, 0, 0, false)
	for _, state := range states() {
		if state == over {
			continue
		}
		for _, calls := range [][]call.Call{{whole(state)}, {good(6), whole(state)}, {whole(state), bad(internal)}, {bad(deadline), whole(state), good(6)}} {
			expectSettled(t, root(calls...), 100, 0, 0, false)
		}
	}
	for _, att := range []int{math.MinInt, -1, 1, 2, 5, 256, 1 << 32, math.MaxInt} {
		for _, x := range []call.Call{good(6), bad(deadline), bad(cancelled), bad(internal)} {
			o := root(x)
			o.Key.Att = att
			expectSettled(t, o, 100, 0, 0, false)
		}
	}
	// Who is a root is told by the attempt alone.
	o := handler()
	o.Key.Att, o.Calls = 0, []call.Call{good(6)}
	expectSettled(t, o, 100, ok, 6, true)
}

// mayConfig is a configuration at random that may be.
func mayConfig(r *rand.Rand) api.Config {
	base := 1 + r.Intn(50)
	return api.Config{
		Nodes: 1 + r.Intn(64), Skew: r.Intn(1001), Lease: 1 + r.Intn(200), Grain: r.Intn(7), Least: 1 + r.Intn(20), Hops: 1 + r.Intn(16),
		Cap: 1 + r.Intn(64), Fan: 1 + r.Intn(8), Attempts: 1 + r.Intn(5), Base: base, Most: base + r.Intn(50), Wait: 1 + r.Intn(99),
		Tokens: 1 + r.Intn(20), Programs: make([][]api.Op, 16),
	}
}

// mayId is a name at random that may be.
func mayId(r *rand.Rand) api.Id {
	return api.Id{Node: r.Intn(64), Inc: r.Intn(1 << 16), Seq: r.Intn(1 << 24)}
}

// mayTime is a time at random: small, near the greatest one, or of whatever size.
func mayTime(r *rand.Rand) int {
	switch r.Intn(3) {
	case 0:
		return r.Intn(200)
	case 1:
		return tick - r.Intn(200)
	}
	return r.Intn(tick+1) >> r.Intn(50)
}

// mayCall is a call at random that may be.
func mayCall(r *rand.Rand) call.Call {
	x := call.Call{Id: mayId(r), To: r.Intn(64), Program: r.Intn(16), State: r.Intn(4), Committed: r.Intn(4) == 0}
	if x.State != fresh {
		x.Att = 1 + r.Intn(attempts)
		x.Tries, x.Sent = x.Att, mayTime(r)
	}
	if x.State == over {
		x.Code = r.Intn(17)
	}
	if x.State == over && x.Code == ok {
		x.Value = r.Intn(mostValue + 1)
	}
	return x
}

// mayOwner is an owner at random that may be: a root, or an attempt.
func mayOwner(r *rand.Rand, hops int) owner.Owner {
	o := owner.Owner{Root: mayId(r), From: r.Intn(64), Deadline: mayTime(r), Until: mayTime(r), Program: r.Intn(16)}
	o.Key = api.Key{Id: o.Root}
	if r.Intn(3) > 0 {
		o.Key, o.Parent = api.Key{Id: mayId(r), Att: 1 + r.Intn(attempts)}, api.Key{Id: mayId(r), Att: r.Intn(attempts + 1)}
		o.Hop = 1 + r.Intn(hops)
	}
	for range r.Intn(4) {
		o.Calls = append(o.Calls, mayCall(r))
	}
	return o
}

func expectMay(t *testing.T, p api.Packet) {
	t.Helper()
	if !packet.Right(p) {
		t.Errorf("%+v may not be", p)
	}
	if got, e := packet.Parse(packet.Code(p)); got != p || e != api.OK {
		t.Errorf("%+v is told as %+v, %d", p, got, e)
	}
}

func TestWhatIsSentOfWhatMayBeMayBe(t *testing.T) {
	r := rand.New(rand.NewSource(262))
	sent := 0
	for range 60000 {
		c := mayConfig(r)
		o, me, now := mayOwner(r, c.Hops), r.Intn(64), mayTime(r)
		if x, p := sender.Send(c, me, o, mayCall(r), now); p != (api.Packet{}) {
			sent++
			expectMay(t, p)
			if d := admit.Deadline(p); d > o.Deadline || d <= now {
				t.Errorf("at %d %+v goes along to %d with %+v", now, p, d, o)
			}
			if p.Until > o.Until || p.Hop > c.Hops || x.State != waiting || p.Key.Att != x.Att || x.Att > attempts {
				t.Errorf("%+v, with %+v of %+v", p, x, o)
			}
		}
		for _, p := range append(sender.Cancels(me, o), sender.Keeps(me, o)...) {
			expectMay(t, p)
		}
		if o.Key.Att == 0 {
			continue
		}
		expectMay(t, sender.More(me, o))
		expectMay(t, sender.Reply(me, o, r.Intn(17), r.Intn(mostValue+1)))
		expectMay(t, sender.Refuse(me, o, r.Intn(tick+2)-1))
	}
	if sent < 1000 {
		t.Errorf("%d were sent alone", sent)
	}
}

func TestNoRootIsSettledAsCancelledOrEarly(t *testing.T) {
	r := rand.New(rand.NewSource(263))
	settled := map[int]int{}
	for range 200000 {
		o, now := root(), r.Intn(200)
		for range r.Intn(4) {
			x := mayCall(r)
			if r.Intn(4) > 0 {
				x = bad([]int{ok, cancelled, deadline, unavailable, right(number(r))}[r.Intn(5)])
			}
			o.Calls = append(o.Calls, x)
		}
		n, v, is := sender.Settled(o, now)
		if n == cancelled || n == deadline && now < o.Deadline || n != ok && v != 0 || !is && n != ok {
			t.Errorf("Settled(%+v, %d) = %d, %d, %v", o, now, n, v, is)
		}
		if is {
			settled[n]++
		}
	}
	for _, n := range []int{ok, deadline, internal, unavailable} {
		if settled[n] == 0 {
			t.Errorf("none was settled with %d", n)
		}
	}
}

// sends is 26.1 in other words, of a call, a time and a place that may be any.
func sends(c api.Config, o owner.Owner, x call.Call, now int) int {
	left := time(o.Deadline) - time(now)
	switch {
	case x.State != fresh && x.State != resting || x.Att >= attempts:
		return x.State
	case o.Hop >= c.Hops:
		return -exhausted
	case left <= 0 || left < time(c.Least):
		return -deadline
	}
	return waiting
}

func TestSendAgainstTheRuleAtRandom(t *testing.T) {
	r := rand.New(rand.NewSource(264))
	for range 60000 {
		c, o, x := mayConfig(r), mayOwner(r, 9), mayCall(r)
		now := mayTime(r)
		if r.Intn(2) == 0 {
			o.Hop, o.Deadline, now, c.Least = number(r), number(r), number(r), number(r)
		}
		switch want := sends(c, o, x, now); want {
		case -exhausted, -deadline:
			expectSend(t, c, 32, o, x, now, ended(x, -want), api.Packet{})
		case x.State:
			expectSend(t, c, 32, o, x, now, x, api.Packet{})
		default:
			y, p := sender.Send(c, 32, o, x, now)
			z := x
			z.Att, z.Tries, z.State, z.Sent, z.Ready = x.Att+1, x.Tries+1, waiting, time(now), 0
			if y != z || p.Stamp != time(now) || p.Until != time(o.Until) || p.Key != (api.Key{Id: x.Id, Att: z.Att}) || p.Hop != o.Hop+1 {
				t.Errorf("Send(%+v, %+v, %+v, %d) = %+v, %+v", c, o, x, now, y, p)
			}
		}
	}
}

// fails is 26.2 in other words: when a call that waits may begin again, or -1, if it is over.
func fails(c api.Config, me int, o owner.Owner, x call.Call, now, left, n, push int) int {
	step := time(c.Base)
	for k := 1; k < x.Att; k++ {
		step = min(2*step, tick)
	}
	step = min(step, time(c.Most))
	wait := step - step/2*jitter(me, x.Id.Seq, x.Att)/1000
	if push >= 0 {
		wait = time(push)
	}
	ready := min(time(now)+wait, tick)
	over := time(o.Deadline) - ready
	again := (n == unavailable || n == exhausted) && !x.Committed && x.Att < c.Attempts && push != never
	if again && 2*left > 1000*held(c.Tokens, 1, 1000) && over > 0 && over >= time(c.Least) {
		return ready
	}
	return -1
}

func TestFailedAgainstTheRuleAtRandom(t *testing.T) {
	r := rand.New(rand.NewSource(265))
	rested := 0
	for range 100000 {
		c, o, x := mayConfig(r), mayOwner(r, 9), mayCall(r)
		x.State, x.Att, x.Code, x.Value = waiting, 1+r.Intn(attempts), 0, 0
		me, now, n, push := r.Intn(64), mayTime(r), []int{unavailable, exhausted, r.Intn(17), number(r)}[r.Intn(4)], r.Intn(30)-2
		have := r.Intn(1000*c.Tokens + 1)
		if r.Intn(3) == 0 {
			o.Deadline, now, push, have, c.Tokens = number(r), number(r), number(r), number(r), number(r)
		}
		left := max(0, held(have, 0, 1000*held(c.Tokens, 1, 1000))-1000)
		want := ended(x, right(n))
		if ready := fails(c, me, o, x, now, left, n, push); ready >= 0 {
			want = x
			want.State, want.Ready = resting, ready
			rested++
		}
		expectFailed(t, c, me, o, x, now, have, n, push, want, left)
	}
	if rested < 1000 {
		t.Errorf("%d rested alone", rested)
	}
}
