package node_test

import (
	"math"
	"reflect"
	"slices"
	"testing"

	"hourglass/api"
	"hourglass/backoff"
	"hourglass/call"
	"hourglass/node"
	"hourglass/owner"
)

// The kinds, the states, the codes and the greatest numbers are written out, so that a test tells when they are taken wrongly.
const (
	kindCall   = 1
	kindReply  = 2
	kindCancel = 3
	kindKeep   = 4
	kindPush   = 5

	issued    = 1
	sent      = 2
	started   = 3
	worked    = 4
	stopped   = 5
	replied   = 6
	ended     = 7
	dropped   = 8
	crashed   = 9
	pushed    = 10
	committed = 11

	waiting = 1
	resting = 2
	over    = 3

	ok            = 0
	cancelled     = 1
	unknown       = 2
	deadline      = 4
	exhausted     = 8
	unimplemented = 12
	internal      = 13
	unavailable   = 14

	tick      = 1 << 50
	mostValue = 1<<31 - 1
	mostSeq   = 1<<24 - 1
	mostInc   = 1<<16 - 1
	mostRoots = 64
	mostSeen  = 512
)

// me is the node that the tests below speak of, but where they say another one.
const me = 1

// The programs of config.
const (
	progWork = iota
	progSpawn
	progMany
	progHead
	progFail
	progRefuse
	progNever
	progEmpty
	progCount
)

// config is one that may be, of which all settings are apart.
func config() api.Config {
	programs := make([][]api.Op, progCount)
	programs[progWork] = []api.Op{{Kind: api.Work, A: 2}, {Kind: api.Answer, A: 7}}
	programs[progSpawn] = []api.Op{{Kind: api.Spawn, A: 2, B: progWork}, {Kind: api.Join}, {Kind: api.Answer, A: 5}}
	programs[progMany] = []api.Op{{Kind: api.Spawn, A: 2, B: 0}, {Kind: api.Spawn, A: 3, B: 1}, {Kind: api.Spawn, A: 0, B: 2}, {Kind: api.Join}}
	programs[progHead] = []api.Op{{Kind: api.Head}, {Kind: api.Answer, A: 1}}
	programs[progFail] = []api.Op{{Kind: api.Spawn, A: 2, B: 0}, {Kind: api.Fail, A: 9}}
	programs[progRefuse] = []api.Op{{Kind: api.Spawn, A: 2, B: 0}, {Kind: api.Refuse, A: 30}}
	programs[progNever] = []api.Op{{Kind: api.Refuse, A: -1}}
	return api.Config{
		Nodes: 4, Skew: 1, Lease: 50, Grain: 0, Least: 5, Hops: 3, Cap: 4, Fan: 2, Attempts: 3, Base: 6, Most: 9, Wait: 20, Tokens: 10,
		Programs: programs,
	}
}

func made(t *testing.T, c api.Config, me int) *node.Node {
	t.Helper()
	n, e := node.New(c, me)
	if n == nil || e != api.OK {
		t.Fatalf("New(%+v, %d) = %v, %d", c, me, n, e)
	}
	return n
}

// id is a name that the node me gives, in its first incarnation.
func id(seq int) api.Id { return api.Id{Node: me, Seq: seq} }

// attempt is the key of an attempt of a call of the node me.
func attempt(seq, att int) api.Key { return api.Key{Id: id(seq), Att: att} }

func packets(l ...api.Packet) []api.Packet { return l }

func events(l ...api.Event) []api.Event { return l }

func expectOut(t *testing.T, what string, got node.Out, p []api.Packet, e []api.Event) {
	t.Helper()
	if !slices.Equal(got.Packets, p) {
		t.Errorf("%s sends\n%+v, not\n%+v", what, got.Packets, p)
	}
	if !slices.Equal(got.Events, e) {
		t.Errorf("%s tells\n%+v, not\n%+v", what, got.Events, e)
	}
}

func expectDone(t *testing.T, what string, got node.Out, e api.Errno, p []api.Packet, l []api.Event) {
	t.Helper()
	if e != api.OK {
		t.Errorf("%s: error %d", what, e)
	}
	expectOut(t, what, got, p, l)
}

func expectRefused(t *testing.T, what string, got node.Out, e, want api.Errno) {
	t.Helper()
	if e != want {
		t.Errorf("%s: error %d, not %d", what, e, want)
	}
	expectOut(t, what, got, nil, nil)
}

func expectOwner(t *testing.T, n *node.Node, want owner.Owner) {
	t.Helper()
	if o, has := n.Owner(want.Key); !has || !owner.Same(o, want) {
		t.Errorf("Owner(%+v) = %+v, %v, not %+v", want.Key, o, has, want)
	}
}

func expectKeys(t *testing.T, n *node.Node, want ...api.Key) {
	t.Helper()
	if got := n.Keys(); !slices.Equal(got, want) {
		t.Errorf("Keys() = %+v, not %+v", got, want)
	}
	running := slices.DeleteFunc(slices.Clone(want), func(k api.Key) bool { return k.Att == 0 })
	if got := n.Running(); !slices.Equal(got, running) {
		t.Errorf("Running() = %+v, not %+v", got, running)
	}
	for _, k := range want {
		if _, has := n.Owner(k); !has {
			t.Errorf("no owner %+v", k)
		}
	}
}

// rooted is an event of the root of a name.
func rooted(kind, local, seq, code, value int) api.Event {
	return api.Event{Kind: kind, Node: me, Local: local, Key: attempt(seq, 0), Root: id(seq), Code: code, Value: value}
}

// below is an event of an attempt of the call that the root of a name made.
func below(kind, local, seq, att, value int) api.Event {
	return api.Event{Kind: kind, Node: me, Local: local, Key: attempt(seq+1, att), Parent: attempt(seq, 0), Root: id(seq), Hop: 1, Value: value}
}

// asked is the Call that the root of a name makes.
func asked(seq, att, to, prog, stamp int, timeout string, until int) api.Packet {
	return api.Packet{
		Kind: kindCall, From: me, To: to, Key: attempt(seq+1, att), Hop: 1, Stamp: stamp, Timeout: timeout, Until: until,
		Program: prog, Root: id(seq), Parent: attempt(seq, 0),
	}
}

// reply is a Reply to the node me.
func reply(k api.Key, code, value int) api.Packet {
	return api.Packet{Kind: kindReply, From: 2, To: me, Key: k, Code: code, Value: value}
}

func more(k api.Key) api.Packet {
	return api.Packet{Kind: kindReply, From: 2, To: me, Key: k, More: true}
}

func push(k api.Key, delay int) api.Packet {
	return api.Packet{Kind: kindPush, From: 2, To: me, Key: k, Delay: delay}
}

func keep(k api.Key, until int) api.Packet {
	return api.Packet{Kind: kindKeep, From: 2, To: me, Key: k, Until: until}
}

func cancel(k api.Key) api.Packet {
	return api.Packet{Kind: kindCancel, From: 2, To: me, Key: k}
}

// guest is the key of an attempt of another node's call.
func guest(seq int) api.Key { return api.Key{Id: api.Id{Node: 3, Inc: 8, Seq: seq}, Att: 2} }

// asks is a Call to the node me, with a deadline at 110, and a lease up to 60.
func asks(seq, prog int) api.Packet {
	return api.Packet{
		Kind: kindCall, From: 3, To: me, Key: guest(seq), Hop: 2, Stamp: 10, Timeout: "100u", Until: 60,
		Program: prog, Root: api.Id{Node: 2, Inc: 5, Seq: 6}, Parent: api.Key{Id: api.Id{Node: 3, Inc: 4, Seq: 9}, Att: 1},
	}
}

// hosted is the owner that such a Call begins.
func hosted(p api.Packet) owner.Owner {
	return owner.Owner{Key: p.Key, Root: p.Root, Parent: p.Parent, From: p.From, Hop: p.Hop, Deadline: 110, Until: p.Until, Program: p.Program}
}

// guests is an event of such an attempt.
func guests(kind, local, seq, code, value int) api.Event {
	p := asks(seq, 0)
	return api.Event{Kind: kind, Node: me, Local: local, Key: p.Key, Parent: p.Parent, Root: p.Root, Hop: 2, Code: code, Value: value}
}

// spawned is the Call that such an attempt makes, with the name seq.
func spawned(k api.Key, seq, to, prog, stamp int, timeout string) api.Packet {
	return api.Packet{
		Kind: kindCall, From: me, To: to, Key: attempt(seq, 1), Hop: 3, Stamp: stamp, Timeout: timeout, Until: 60,
		Program: prog, Root: api.Id{Node: 2, Inc: 5, Seq: 6}, Parent: k,
	}
}

// spawning is the event of that.
func spawning(local int, k api.Key, seq int) api.Event {
	return api.Event{Kind: sent, Node: me, Local: local, Key: attempt(seq, 1), Parent: k, Root: api.Id{Node: 2, Inc: 5, Seq: 6}, Hop: 3}
}

// answers is what such an attempt answers to the node 3.
func answers(k api.Key, code, value int) api.Packet {
	return api.Packet{Kind: kindReply, From: me, To: 3, Key: k, Code: code, Value: value}
}

func refuses(k api.Key, delay int) api.Packet {
	return api.Packet{Kind: kindPush, From: me, To: 3, Key: k, Delay: delay}
}

// stops is a Cancel from the node me.
func stops(to int, k api.Key) api.Packet {
	return api.Packet{Kind: kindCancel, From: me, To: to, Key: k}
}

// keeps is a Keep from the node me.
func keeps(to int, k api.Key, until int) api.Packet {
	return api.Packet{Kind: kindKeep, From: me, To: to, Key: k, Until: until}
}

// begun is a node me at which an attempt of a program was begun at 12.
func begun(t *testing.T, c api.Config, seq, prog int) *node.Node {
	t.Helper()
	n := made(t, c, me)
	x, e := n.Receive(12, asks(seq, prog))
	expectDone(t, "Receive", x, e, nil, events(guests(started, 12, seq, 0, 0)))
	return n
}

// rootAt is a node me that issued a root at 10, for 100 ticks, which calls a program at the node 2.
func rootAt(t *testing.T, c api.Config) *node.Node {
	t.Helper()
	n := made(t, c, me)
	if root, _, e := n.Issue(10, 2, 0, 100); root != id(1) || e != api.OK {
		t.Fatal(root, e)
	}
	return n
}

// firstCall is the call of that root, at its first attempt.
func firstCall() call.Call {
	return call.Call{Id: id(2), To: 2, Program: 0, Att: 1, State: waiting, Sent: 10, Tries: 1}
}

// firstRoot is that root, with such a call.
func firstRoot(x call.Call) owner.Owner {
	return owner.Owner{Key: attempt(1, 0), Root: id(1), From: me, Deadline: 110, Until: 60, Calls: []call.Call{x}}
}

// rests is how long the node me waits behind an attempt of a call.
func rests(seq, att int) int { return backoff.Delay(6, 9, att, backoff.Jitter(me, seq, att)) }

func TestNewTellsANodeOfAConfiguration(t *testing.T) {
	for _, nodes := range []int{4, 5, 64} {
		c := config()
		c.Nodes = nodes
		for me := range nodes {
			n := made(t, c, me)
			expectKeys(t, n)
			if n.Inc() != 0 || n.Tokens() != 10000 {
				t.Errorf("New(%d): %d, %d", me, n.Inc(), n.Tokens())
			}
			root, x, _ := n.Issue(0, 0, 0, 9)
			if root != (api.Id{Node: me, Seq: 1}) || len(x.Packets) != 1 || x.Packets[0].From != me || x.Events[0].Node != me {
				t.Errorf("the node %d issues %+v, %+v", me, root, x)
			}
		}
		for _, me := range []int{math.MinInt, -64, -1, nodes, nodes + 1, 256, 1 << 32, math.MaxInt} {
			if n, e := node.New(c, me); n != nil || e != api.ErrArg {
				t.Errorf("New of %d nodes and %d = %v, %d", nodes, me, n, e)
			}
		}
	}
	for _, tokens := range []int{1, 999, 1000} {
		c := config()
		c.Tokens = tokens
		if n := made(t, c, 0); n.Tokens() != 1000*tokens {
			t.Errorf("%d tokens are %d", tokens, n.Tokens())
		}
	}
}

func TestNewRefusesWhatMayNotBe(t *testing.T) {
	for what, spoil := range map[string]func(c *api.Config){
		"nodes": func(c *api.Config) { c.Nodes = 65 }, "skew": func(c *api.Config) { c.Skew = -1 }, "lease": func(c *api.Config) { c.Lease = 0 },
		"grain": func(c *api.Config) { c.Grain = 7 }, "least": func(c *api.Config) { c.Least = 0 }, "hops": func(c *api.Config) { c.Hops = 17 },
		"cap": func(c *api.Config) { c.Cap = 65 }, "fan": func(c *api.Config) { c.Fan = 9 }, "attempts": func(c *api.Config) { c.Attempts = 6 },
		"base": func(c *api.Config) { c.Base = 10 }, "most": func(c *api.Config) { c.Most = 1000001 }, "wait": func(c *api.Config) { c.Wait = 0 },
		"tokens": func(c *api.Config) { c.Tokens = 1001 }, "none": func(c *api.Config) { c.Programs = nil },
		"programs": func(c *api.Config) { c.Programs = make([][]api.Op, 17) },
		"node":     func(c *api.Config) { c.Programs[progSpawn][0].A = 4 },
		"program":  func(c *api.Config) { c.Programs[progSpawn][0].B = progCount },
		"kind":     func(c *api.Config) { c.Programs[progCount-1] = []api.Op{{}} },
		"steps":    func(c *api.Config) { c.Programs[0] = slices.Repeat([]api.Op{{Kind: api.Join}}, 17) },
	} {
		c := config()
		spoil(&c)
		if n, e := node.New(c, 0); n != nil || e != api.ErrArg {
			t.Errorf("New, %s: %v, %d", what, n, e)
		}
	}
	if n, e := node.New(api.Config{}, 0); n != nil || e != api.ErrArg {
		t.Errorf("New of nothing: %v, %d", n, e)
	}
	// Its last program counts, and its fewest nodes.
	c := config()
	c.Nodes, c.Programs = 1, [][]api.Op{{{Kind: api.Spawn, A: 0, B: 0}}}
	made(t, c, 0)
}

func TestIssueBeginsARoot(t *testing.T) {
	// The example: at 10 a root calls a program at another node, for 100 ticks.
	n := made(t, config(), me)
	root, x, e := n.Issue(10, 2, progHead, 100)
	expectDone(t, "Issue", x, e, packets(asked(1, 1, 2, progHead, 10, "100u", 60)), events(rooted(issued, 10, 1, 0, 100), below(sent, 10, 1, 1, 0)))
	want := firstRoot(firstCall())
	want.Program, want.Calls[0].Program = progHead, progHead
	expectOwner(t, n, want)
	if root != id(1) {
		t.Error(root)
	}
	// Each root takes two names; one may call its own node.
	root, x, e = n.Issue(11, me, progWork, 9)
	expectDone(t, "Issue", x, e, packets(asked(3, 1, me, progWork, 11, "9u", 61)), events(rooted(issued, 11, 3, 0, 9), below(sent, 11, 3, 1, 0)))
	if root != id(3) {
		t.Error(root)
	}
	expectKeys(t, n, attempt(1, 0), attempt(3, 0))
	if l := n.Under(id(3)); !slices.Equal(l, []api.Key{attempt(3, 0)}) {
		t.Error(l)
	}
	if l := n.Under(id(2)); len(l) != 0 {
		t.Error(l)
	}
	for to := range 4 {
		for prog := range int(progCount) {
			n := made(t, config(), me)
			_, x, e := n.Issue(10, to, prog, 100)
			expectDone(t, "Issue", x, e, packets(asked(1, 1, to, prog, 10, "100u", 60)), events(rooted(issued, 10, 1, 0, 100), below(sent, 10, 1, 1, 0)))
		}
	}
}

func TestIssueHoldsTimes(t *testing.T) {
	for _, e := range []struct {
		now, timeout, local, value, ends, until int
		text                                    string
	}{
		{math.MinInt, 9, 0, 9, 9, 50, "9u"}, {-1, 9, 0, 9, 9, 50, "9u"}, {0, 5, 0, 5, 5, 50, "5u"},
		{7, 99999999, 7, 99999999, 100000006, 57, "99999999u"}, {7, 100000999, 7, 100000999, 100001006, 57, "100000m"},
		{0, tick, 0, tick, tick, 50, "18764998M"}, {0, tick + 1, 0, tick, tick, 50, "18764998M"}, {9, math.MaxInt, 9, tick, tick, 59, "18764998M"},
		{tick - 60, 70, tick - 60, 70, tick, tick - 10, "60u"}, {tick - 7, 9, tick - 7, 9, tick, tick, "7u"},
	} {
		n := made(t, config(), me)
		_, x, no := n.Issue(e.now, 2, 0, e.timeout)
		expectDone(t, "Issue", x, no, packets(asked(1, 1, 2, 0, e.local, e.text, e.until)), events(rooted(issued, e.local, 1, 0, e.value), below(sent, e.local, 1, 1, 0)))
		want, first := firstRoot(firstCall()), firstCall()
		first.Sent = e.local
		want.Deadline, want.Until, want.Calls = e.ends, e.until, []call.Call{first}
		expectOwner(t, n, want)
	}
}

func TestIssueWithoutTimeEnough(t *testing.T) {
	// Less than Least is left, so that nothing is sent; ahead of its deadline the root does not end for that.
	n := made(t, config(), me)
	root, x, e := n.Issue(10, 2, 0, 4)
	expectDone(t, "Issue", x, e, nil, events(rooted(issued, 10, 1, 0, 4)))
	want := firstRoot(call.Call{Id: id(2), To: 2, State: over, Code: deadline})
	want.Deadline = 14
	expectOwner(t, n, want)
	expectOut(t, "Timer", n.Timer(13), nil, nil)
	expectOut(t, "Timer", n.Timer(14), nil, events(rooted(ended, 14, 1, deadline, 0)))
	expectKeys(t, n)
	// At the last tick it ends at once.
	for _, now := range []int{tick, tick + 1, math.MaxInt} {
		root, x, e = n.Issue(now, 2, 0, 100)
		seq := root.Seq
		expectDone(t, "Issue", x, e, nil, events(rooted(issued, tick, seq, 0, 100), rooted(ended, tick, seq, deadline, 0)))
		expectKeys(t, n)
	}
	if root != id(7) {
		t.Error(root)
	}
}

func TestIssueRefuses(t *testing.T) {
	n := made(t, config(), me)
	for _, a := range [][3]int{
		{-1, 0, 9}, {4, 0, 9}, {math.MinInt, 0, 9}, {math.MaxInt, 0, 9}, {64, 0, 9}, {1 << 32, 0, 9},
		{0, -1, 9}, {0, progCount, 9}, {0, math.MinInt, 9}, {0, math.MaxInt, 9}, {0, 1 << 32, 9},
		{0, 0, 0}, {0, 0, -1}, {0, 0, math.MinInt}, {-1, -1, -1},
	} {
		root, x, e := n.Issue(500, a[0], a[1], a[2])
		expectRefused(t, "Issue", x, e, api.ErrArg)
		if root != (api.Id{}) {
			t.Error(root)
		}
	}
	// Nothing was changed: no name was given, and the time is what it was.
	root, x, e := n.Issue(10, 2, 0, 100)
	expectDone(t, "Issue", x, e, packets(asked(1, 1, 2, 0, 10, "100u", 60)), events(rooted(issued, 10, 1, 0, 100), below(sent, 10, 1, 1, 0)))
	if root != id(1) {
		t.Error(root)
	}
}

func TestIssueUpToAsManyRootsAsMayBe(t *testing.T) {
	c := config()
	c.Cap = 64
	n := made(t, c, me)
	// Attempts are no roots, however many run.
	for k := range 64 {
		n.Receive(12, asks(k+1, 0))
	}
	for k := range mostRoots {
		if root, _, e := n.Issue(12, 2, 0, 100); root != id(2*k+1) || e != api.OK {
			t.Fatal(k, root, e)
		}
	}
	if node.MaxRoots != mostRoots || len(n.Keys()) != 128 || len(n.Running()) != 64 {
		t.Error(node.MaxRoots, len(n.Keys()), len(n.Running()))
	}
	root, x, e := n.Issue(500, 2, 0, 100)
	expectRefused(t, "Issue", x, e, api.ErrFull)
	if root != (api.Id{}) {
		t.Error(root)
	}
	root, x, e = n.Issue(500, 4, 0, 100)
	expectRefused(t, "Issue", x, e, api.ErrArg)
	if root != (api.Id{}) {
		t.Error(root)
	}
	n.Cancel(12, id(9))
	root, x, e = n.Issue(13, 2, 0, 100)
	expectDone(t, "Issue", x, e, packets(asked(129, 1, 2, 0, 13, "100u", 63)), events(rooted(issued, 13, 129, 0, 100), below(sent, 13, 129, 1, 0)))
	if root != id(129) {
		t.Error(root)
	}
	_, x, e = n.Issue(13, 2, 0, 100)
	expectRefused(t, "Issue", x, e, api.ErrFull)
}

func TestCancelEndsARoot(t *testing.T) {
	n := rootAt(t, config())
	n.Issue(10, 3, 1, 100)
	x, e := n.Cancel(15, id(1))
	expectDone(t, "Cancel", x, e, packets(stops(2, attempt(2, 1))), events(rooted(dropped, 15, 1, 0, 0), rooted(ended, 15, 1, cancelled, 0)))
	expectKeys(t, n, attempt(3, 0))
	// Who waits for nobody tells nobody.
	n.Receive(16, push(attempt(4, 1), 30))
	x, e = n.Cancel(17, id(3))
	expectDone(t, "Cancel", x, e, nil, events(rooted(dropped, 17, 3, 0, 0), rooted(ended, 17, 3, cancelled, 0)))
	expectKeys(t, n)
	// Its deadline is not asked: it ends as its caller wishes, until it has ended otherwise.
	n.Issue(20, 2, 0, 10)
	x, e = n.Cancel(40, id(5))
	expectDone(t, "Cancel", x, e, packets(stops(2, attempt(6, 1))), events(rooted(dropped, 40, 5, 0, 0), rooted(ended, 40, 5, cancelled, 0)))
}

func TestCancelRefuses(t *testing.T) {
	n := rootAt(t, config())
	n.Receive(12, asks(1, 0))
	k := guest(1)
	k.Id = id(7)
	p := asks(1, 0)
	p.Key = k
	n.Receive(12, p)
	// A call, an attempt of whatever name, another node's root, and a name of another incarnation are none of its roots.
	for _, d := range []api.Id{{}, id(2), id(3), id(7), guest(1).Id, {Node: 2, Seq: 1}, {Node: me, Inc: 1, Seq: 1}, {Node: -1, Inc: -1, Seq: -1}, p.Root} {
		x, e := n.Cancel(500, d)
		expectRefused(t, "Cancel", x, e, api.ErrNone)
	}
	x, e := n.Cancel(15, id(1))
	expectDone(t, "Cancel", x, e, packets(stops(2, attempt(2, 1))), events(rooted(dropped, 15, 1, 0, 0), rooted(ended, 15, 1, cancelled, 0)))
	x, e = n.Cancel(500, id(1))
	expectRefused(t, "Cancel", x, e, api.ErrNone)
	expectKeys(t, n, k, guest(1))
}

func TestReceiveBeginsAnAttempt(t *testing.T) {
	n := begun(t, config(), 1, progSpawn)
	expectOwner(t, n, hosted(asks(1, progSpawn)))
	expectKeys(t, n, guest(1))
	// The deadline is what the packet says, not when it arrives; from any node, at each hop, of each program.
	for from := range 64 {
		for hop := 1; hop <= 3; hop++ {
			n := made(t, config(), me)
			p := asks(1, from%progCount)
			p.From, p.Hop = from, hop
			x, e := n.Receive(59, p)
			want := guests(started, 59, 1, 0, 0)
			want.Hop = hop
			expectDone(t, "Receive", x, e, nil, events(want))
			expectOwner(t, n, hosted(p))
		}
	}
	// A stamp ahead of its own time, and a deadline at the end of all times.
	n = made(t, config(), me)
	p := asks(1, 0)
	p.Stamp, p.Timeout, p.Until = tick-9, "1H", tick
	x, e := n.Receive(12, p)
	expectDone(t, "Receive", x, e, nil, events(guests(started, 12, 1, 0, 0)))
	want := hosted(p)
	want.Deadline = tick
	expectOwner(t, n, want)
}

func TestReceiveRefusesWhatMayNotBe(t *testing.T) {
	n := rootAt(t, config())
	n.Receive(12, asks(1, 0))
	k := attempt(2, 1)
	for _, p := range []api.Packet{
		asks(2, 0), asks(1, 0), reply(k, ok, 9), reply(k, unavailable, 0), more(k), push(k, 3), cancel(guest(1)), keep(guest(1), 90),
	} {
		for what, spoil := range map[string]func(p *api.Packet){
			"to": func(p *api.Packet) { p.To = 2 }, "nowhere": func(p *api.Packet) { p.To = -1 }, "far": func(p *api.Packet) { p.To = 64 + me },
			"from": func(p *api.Packet) { p.From = 64 }, "kind": func(p *api.Packet) { p.Kind = 6 }, "none": func(p *api.Packet) { p.Kind = 0 },
			"attempt": func(p *api.Packet) { p.Key.Att = 0 }, "key": func(p *api.Packet) { p.Key.Id.Seq = 0 }, "name": func(p *api.Packet) { p.Key.Id.Inc = mostInc + 1 },
			"until": func(p *api.Packet) { p.Until = tick + 1 }, "code": func(p *api.Packet) { p.Code = 17 }, "delay": func(p *api.Packet) { p.Delay = -2 },
			"timeout": func(p *api.Packet) { p.Timeout = "u" }, "value": func(p *api.Packet) { p.Value = -1 }, "stamp": func(p *api.Packet) { p.Stamp = -1 },
			"hop": func(p *api.Packet) { p.Hop = 17 }, "program": func(p *api.Packet) { p.Program = 16 }, "root": func(p *api.Packet) { p.Root.Node = 64 },
		} {
			bad := p
			spoil(&bad)
			x, e := n.Receive(500, bad)
			if e != api.ErrArg {
				t.Errorf("%s: %+v: error %d", what, bad, e)
			}
			expectRefused(t, what, x, e, api.ErrArg)
		}
	}
	x, e := n.Receive(500, api.Packet{})
	expectRefused(t, "nothing", x, e, api.ErrArg)
	// Nothing was changed, not even the time.
	expectOwner(t, n, firstRoot(firstCall()))
	expectOwner(t, n, hosted(asks(1, 0)))
	expectKeys(t, n, attempt(1, 0), guest(1))
	x, e = n.Receive(13, asks(3, 0))
	expectDone(t, "Receive", x, e, nil, events(guests(started, 13, 3, 0, 0)))
}

func TestReceiveSaysWhyNot(t *testing.T) {
	for what, e := range map[string]struct {
		spoil func(p *api.Packet)
		now   int
		want  []api.Packet
		begun bool
	}{
		"hop":          {func(p *api.Packet) { p.Hop = 4 }, 12, packets(answers(guest(1), exhausted, 0)), false},
		"program":      {func(p *api.Packet) { p.Program = progCount }, 12, packets(answers(guest(1), unimplemented, 0)), false},
		"deadline":     {func(p *api.Packet) { p.Until = 500 }, 106, packets(answers(guest(1), deadline, 0)), false},
		"past":         {func(p *api.Packet) { p.Until = 500 }, 500, packets(answers(guest(1), deadline, 0)), false},
		"just in time": {func(p *api.Packet) { p.Until = 500 }, 105, nil, true},
		// Whose lease is over hears nothing.
		"lease":      {func(p *api.Packet) {}, 60, nil, false},
		"last lease": {func(p *api.Packet) {}, 59, nil, true},
		// The first reason is told.
		"hop and all":      {func(p *api.Packet) { p.Hop, p.Program, p.Timeout = 16, 15, "0u" }, 60, packets(answers(guest(1), exhausted, 0)), false},
		"program and all":  {func(p *api.Packet) { p.Program, p.Timeout = 15, "0u" }, 60, packets(answers(guest(1), unimplemented, 0)), false},
		"deadline and all": {func(p *api.Packet) { p.Timeout = "0u" }, 60, packets(answers(guest(1), deadline, 0)), false},
	} {
		n := made(t, config(), me)
		p := asks(1, 0)
		e.spoil(&p)
		x, no := n.Receive(e.now, p)
		if !e.begun {
			expectDone(t, what, x, no, e.want, nil)
			expectKeys(t, n)
			continue
		}
		expectDone(t, what, x, no, e.want, events(guests(started, e.now, 1, 0, 0)))
		expectKeys(t, n, guest(1))
	}
}

func TestReceivePutsOffWhatThereIsNoRoomFor(t *testing.T) {
	n := made(t, config(), me)
	// Roots don't run.
	for range 5 {
		n.Issue(9, 2, 0, 100)
	}
	for k := range 4 {
		x, e := n.Receive(12, asks(k+1, 0))
		expectDone(t, "Receive", x, e, nil, events(guests(started, 12, k+1, 0, 0)))
	}
	x, e := n.Receive(13, asks(5, 0))
	expectDone(t, "full", x, e, packets(refuses(guest(5), 6)), nil)
	// There is no answer for who is put off, so that it is no less begun later.
	n.Receive(14, cancel(guest(2)))
	x, e = n.Receive(15, asks(5, 0))
	expectDone(t, "again", x, e, nil, events(guests(started, 15, 5, 0, 0)))
	// Who is there already is not put off, but ignored.
	x, e = n.Receive(15, asks(1, 0))
	expectDone(t, "there", x, e, nil, nil)
}

func TestReceiveBeginsNobodyTwice(t *testing.T) {
	n := begun(t, config(), 1, progWork)
	x, e := n.Receive(12, asks(1, progWork))
	expectDone(t, "runs", x, e, nil, nil)
	// An owner that is there counts, even if its Calls are not the same.
	other := asks(1, progSpawn)
	other.Hop = 4
	x, e = n.Receive(12, other)
	expectDone(t, "runs", x, e, nil, nil)
	expectOwner(t, n, hosted(asks(1, progWork)))
	n.Receive(13, cancel(guest(1)))
	for _, now := range []int{13, 59, 60, 300} {
		// Seen up to the next attempt that begins, whatever its time.
		x, e = n.Receive(now, asks(1, progWork))
		expectDone(t, "seen", x, e, nil, nil)
	}
	// Another attempt of the same call is another one.
	p := asks(1, progWork)
	p.Key.Att, p.Stamp, p.Until = 3, 300, 400
	x, e = n.Receive(300, p)
	want := guests(started, 300, 1, 0, 0)
	want.Key.Att = 3
	expectDone(t, "next", x, e, nil, events(want))
	// The first one is forgotten then, and too late.
	x, e = n.Receive(300, asks(1, progWork))
	expectDone(t, "forgotten", x, e, packets(answers(guest(1), deadline, 0)), nil)
}

func TestReceiveKeepsInMindWhomItSawUpToTheLesserOfDeadlineAndLease(t *testing.T) {
	for _, e := range []struct {
		timeout string
		until   int
		ends    int
	}{{"100u", 60, 60}, {"40u", 60, 50}} {
		for _, now := range []int{e.ends - 1, e.ends} {
			n := made(t, config(), me)
			p := asks(1, progWork)
			p.Timeout, p.Until = e.timeout, e.until
			n.Receive(12, p)
			n.Receive(13, cancel(guest(1)))
			other := asks(2, progWork)
			other.Stamp, other.Until = now, now+40
			n.Receive(now, other)
			// Told apart by a program that there is not: who is forgotten is told so.
			p.Program = 15
			x, no := n.Receive(now, p)
			if now < e.ends {
				expectDone(t, "seen", x, no, nil, nil)
				continue
			}
			expectDone(t, "forgotten", x, no, packets(answers(guest(1), unimplemented, 0)), nil)
		}
	}
}

func TestReceiveRefusesWhatItCannotKeepInMind(t *testing.T) {
	n := made(t, config(), me)
	for k := range mostSeen {
		x, e := n.Receive(12, asks(k+1, 0))
		expectDone(t, "Receive", x, e, nil, events(guests(started, 12, k+1, 0, 0)))
		x, e = n.Receive(12, cancel(guest(k+1)))
		expectDone(t, "Receive", x, e, nil, events(guests(stopped, 12, k+1, cancelled, 0)))
	}
	x, e := n.Receive(59, asks(mostSeen+1, 0))
	expectDone(t, "full", x, e, packets(refuses(guest(mostSeen+1), 6)), nil)
	expectKeys(t, n)
	// At 60 all that was seen does not matter any more.
	p := asks(mostSeen+1, 0)
	p.Until = 61
	x, e = n.Receive(60, p)
	expectDone(t, "room", x, e, nil, events(guests(started, 60, mostSeen+1, 0, 0)))
}

func TestReceiveAGoodReply(t *testing.T) {
	for _, value := range []int{0, 1, 9, mostValue} {
		n := rootAt(t, config())
		x, e := n.Receive(15, reply(attempt(2, 1), ok, value))
		expectDone(t, "Receive", x, e, nil, events(rooted(ended, 15, 1, ok, value)))
		expectKeys(t, n)
		// It ends once.
		x, e = n.Receive(16, reply(attempt(2, 1), ok, value))
		expectDone(t, "again", x, e, nil, nil)
		if n.Tokens() != 10000 {
			t.Error(n.Tokens())
		}
	}
	// Whoever it comes from, it counts; past the deadline, too, as long as nobody looked.
	n := rootAt(t, config())
	p := reply(attempt(2, 1), ok, 9)
	p.From = 63
	x, e := n.Receive(500, p)
	expectDone(t, "Receive", x, e, nil, events(rooted(ended, 500, 1, ok, 9)))
}

func TestReceiveAReplyToAnAttempt(t *testing.T) {
	n := begun(t, config(), 1, progSpawn)
	n.Run(13, 0)
	x, e := n.Receive(14, reply(attempt(1, 1), ok, 9))
	expectDone(t, "Receive", x, e, nil, nil)
	want := hosted(asks(1, progSpawn))
	want.PC, want.Calls = 1, []call.Call{{Id: id(1), To: 2, Att: 1, State: over, Sent: 13, Value: 9, Tries: 1}}
	expectOwner(t, n, want)
	// It does not end for that; whatever is said anew of who is over does not count.
	for _, p := range []api.Packet{reply(attempt(1, 1), ok, 8), reply(attempt(1, 1), internal, 0), more(attempt(1, 1)), push(attempt(1, 1), 3)} {
		x, e = n.Receive(15, p)
		expectDone(t, "again", x, e, nil, nil)
		expectOwner(t, n, want)
	}
	if n.Tokens() != 10000 {
		t.Error(n.Tokens())
	}
}

func TestReceiveAReplyThatBringsTokens(t *testing.T) {
	n := made(t, config(), me)
	for range 3 {
		n.Issue(10, 2, 0, 100)
	}
	n.Receive(11, reply(attempt(2, 1), internal, 0))
	n.Receive(11, reply(attempt(4, 1), 16, 0))
	if n.Tokens() != 8000 {
		t.Error(n.Tokens())
	}
	n.Receive(11, reply(attempt(6, 1), ok, 3))
	if n.Tokens() != 8100 {
		t.Error(n.Tokens())
	}
}

func TestReceiveABadReply(t *testing.T) {
	for code := 1; code <= 16; code++ {
		n := rootAt(t, config())
		x, e := n.Receive(15, reply(attempt(2, 1), code, 77))
		if n.Tokens() != 9000 {
			t.Errorf("code %d: %d tokens", code, n.Tokens())
		}
		first := firstCall()
		first.State = resting
		switch code {
		case unavailable, exhausted:
			first.Ready = 15 + rests(2, 1)
			expectDone(t, "Receive", x, e, nil, nil)
			expectOwner(t, n, firstRoot(first))
		case deadline:
			// Its own clock says when its deadline is.
			first.State, first.Code = over, deadline
			expectDone(t, "Receive", x, e, nil, nil)
			expectOwner(t, n, firstRoot(first))
			expectOut(t, "Timer", n.Timer(109), nil, nil)
			expectOut(t, "Timer", n.Timer(110), nil, events(rooted(ended, 110, 1, deadline, 0)))
		case cancelled:
			expectDone(t, "Receive", x, e, nil, events(rooted(ended, 15, 1, internal, 0)))
		default:
			expectDone(t, "Receive", x, e, nil, events(rooted(ended, 15, 1, code, 0)))
		}
	}
	n := rootAt(t, config())
	x, e := n.Receive(110, reply(attempt(2, 1), deadline, 0))
	expectDone(t, "Receive", x, e, nil, events(rooted(ended, 110, 1, deadline, 0)))
}

func TestReceiveAReplyOfWhoIsTaken(t *testing.T) {
	n := rootAt(t, config())
	x, e := n.Receive(15, more(attempt(2, 1)))
	expectDone(t, "More", x, e, nil, events(below(committed, 15, 1, 1, 0)))
	first := firstCall()
	first.Committed = true
	expectOwner(t, n, firstRoot(first))
	x, e = n.Receive(16, more(attempt(2, 1)))
	expectDone(t, "More", x, e, nil, events(below(committed, 16, 1, 1, 0)))
	if n.Tokens() != 10000 {
		t.Error(n.Tokens())
	}
	// Nobody tries again who is taken.
	x, e = n.Receive(17, push(attempt(2, 1), 3))
	expectDone(t, "Push", x, e, nil, events(below(pushed, 17, 1, 1, 3), rooted(ended, 17, 1, unavailable, 0)))
	n = rootAt(t, config())
	n.Receive(15, more(attempt(2, 1)))
	x, e = n.Receive(16, reply(attempt(2, 1), ok, 4))
	expectDone(t, "Reply", x, e, nil, events(rooted(ended, 16, 1, ok, 4)))
	n = rootAt(t, config())
	n.Receive(15, more(attempt(2, 1)))
	expectOut(t, "Timer", n.Timer(30), packets(stops(2, attempt(2, 1))), events(rooted(ended, 30, 1, unavailable, 0)))
}

func TestReceiveAPush(t *testing.T) {
	for _, delay := range []int{0, 1, 30, 90} {
		n := rootAt(t, config())
		x, e := n.Receive(15, push(attempt(2, 1), delay))
		expectDone(t, "Push", x, e, nil, events(below(pushed, 15, 1, 1, delay)))
		first := firstCall()
		first.State, first.Ready = resting, 15+delay
		expectOwner(t, n, firstRoot(first))
		if n.Tokens() != 9000 {
			t.Error(n.Tokens())
		}
		// Who rests does not wait for an answer.
		for _, p := range []api.Packet{push(attempt(2, 1), 3), reply(attempt(2, 1), ok, 3), reply(attempt(2, 1), internal, 0), more(attempt(2, 1))} {
			x, e = n.Receive(15, p)
			expectDone(t, "again", x, e, nil, nil)
			expectOwner(t, n, firstRoot(first))
		}
	}
	// Never, or with too little time left then: it is over.
	for _, delay := range []int{-1, 91, tick} {
		n := rootAt(t, config())
		x, e := n.Receive(15, push(attempt(2, 1), delay))
		expectDone(t, "Push", x, e, nil, events(below(pushed, 15, 1, 1, delay), rooted(ended, 15, 1, unavailable, 0)))
		expectKeys(t, n)
	}
	// Of an attempt's call: its Key, its owner, and one hop more.
	n := begun(t, config(), 1, progSpawn)
	n.Run(13, 0)
	x, e := n.Receive(14, push(attempt(1, 1), 7))
	want := spawning(14, guest(1), 1)
	want.Kind, want.Value = pushed, 7
	expectDone(t, "Push", x, e, nil, events(want))
	x, e = n.Receive(14, more(attempt(1, 1)))
	expectDone(t, "More", x, e, nil, nil)
}

func TestReceiveWhatNobodyWaitsFor(t *testing.T) {
	n := rootAt(t, config())
	n.Receive(11, push(attempt(2, 1), 0))
	n.Timer(11)
	second := firstCall()
	second.Att, second.Tries, second.Sent = 2, 2, 11
	want := firstRoot(second)
	want.Until = 61
	expectOwner(t, n, want)
	for _, k := range []api.Key{attempt(2, 1), attempt(2, 3), attempt(1, 2), attempt(3, 2), {Id: api.Id{Node: me, Inc: 1, Seq: 2}, Att: 2}, {Id: api.Id{Node: 2, Seq: 2}, Att: 2}} {
		for _, p := range []api.Packet{push(k, 3), reply(k, ok, 3), reply(k, internal, 0), more(k), keep(k, 900), cancel(k)} {
			x, e := n.Receive(12, p)
			expectDone(t, "Receive", x, e, nil, nil)
			expectOwner(t, n, want)
		}
	}
	// Such packets as go to attempts alone do nothing to who asked for one.
	for _, p := range []api.Packet{keep(attempt(2, 2), 900), cancel(attempt(2, 2))} {
		x, e := n.Receive(12, p)
		expectDone(t, "Receive", x, e, nil, nil)
		expectOwner(t, n, want)
	}
	if n.Tokens() != 9000 {
		t.Error(n.Tokens())
	}
	x, e := n.Receive(13, reply(attempt(2, 2), ok, 6))
	expectDone(t, "Receive", x, e, nil, events(rooted(ended, 13, 1, ok, 6)))
}

func TestReceiveACancel(t *testing.T) {
	n := begun(t, config(), 1, progMany)
	n.Receive(12, asks(2, progMany))
	n.Run(13, 0)
	n.Run(13, 0)
	x, e := n.Receive(14, cancel(guest(1)))
	expectDone(t, "Cancel", x, e, packets(stops(2, attempt(1, 1)), stops(3, attempt(2, 1))), events(guests(stopped, 14, 1, cancelled, 0)))
	expectKeys(t, n, guest(2))
	x, e = n.Receive(14, cancel(guest(1)))
	expectDone(t, "again", x, e, nil, nil)
	// Past its deadline the code is the same.
	x, e = n.Receive(900, cancel(guest(2)))
	expectDone(t, "Cancel", x, e, nil, events(guests(stopped, 900, 2, cancelled, 0)))
	expectKeys(t, n)
}

func TestReceiveAKeep(t *testing.T) {
	n := begun(t, config(), 1, progWork)
	want := hosted(asks(1, progWork))
	for _, e := range []struct{ heard, until int }{{59, 60}, {60, 60}, {61, 61}, {0, 61}, {tick, tick}, {5, tick}} {
		x, no := n.Receive(13, keep(guest(1), e.heard))
		expectDone(t, "Keep", x, no, nil, nil)
		want.Until = e.until
		expectOwner(t, n, want)
	}
	// What it does goes on, up to the later time, and no further.
	for _, heard := range []int{61, 70} {
		n := begun(t, config(), 1, progWork)
		n.Receive(13, keep(guest(1), heard))
		expectOut(t, "Timer", n.Timer(60), nil, nil)
		expectOut(t, "Timer", n.Timer(heard-1), nil, nil)
		x, e := n.Run(heard-1, 0)
		expectDone(t, "Run", x, e, nil, events(guests(worked, heard-1, 1, 0, 0)))
		expectOut(t, "Timer", n.Timer(heard), nil, events(guests(stopped, heard, 1, cancelled, 0)))
		expectOut(t, "Timer", n.Timer(heard+1), nil, nil)
	}
	n = begun(t, config(), 1, progWork)
	n.Receive(13, keep(guest(1), 500))
	expectOut(t, "Timer", n.Timer(109), nil, nil)
	expectOut(t, "Timer", n.Timer(110), nil, events(guests(stopped, 110, 1, deadline, 0)))
}

func TestTimerRenewsLeases(t *testing.T) {
	n := rootAt(t, config())
	n.Receive(12, asks(1, progMany))
	n.Run(13, 0)
	n.Run(14, 0)
	// By keys: the root's, then the attempt's; that one's lease it passes on as it is.
	x := n.Timer(15)
	expectOut(t, "Timer", x, packets(keeps(2, attempt(2, 1), 65), keeps(2, attempt(3, 1), 60), keeps(3, attempt(4, 1), 60)), nil)
	want := firstRoot(firstCall())
	want.Until = 65
	expectOwner(t, n, want)
	n.Receive(16, keep(guest(1), 99))
	n.Receive(16, reply(attempt(4, 1), ok, 1))
	expectOut(t, "Timer", n.Timer(17), packets(keeps(2, attempt(2, 1), 67), keeps(2, attempt(3, 1), 99)), nil)
	// A lease goes no further than time does.
	n = made(t, config(), me)
	n.Issue(tick-60, 2, 0, 60)
	expectOut(t, "Timer", n.Timer(tick-49), packets(keeps(2, attempt(2, 1), tick)), nil)
}

func TestTimerStopsWhoseTimeIsOver(t *testing.T) {
	for _, e := range []struct {
		timeout     string
		until, ends int
		code        int
	}{{"100u", 60, 60, cancelled}, {"40u", 60, 50, deadline}, {"50u", 60, 60, deadline}} {
		n := made(t, config(), me)
		p := asks(1, progMany)
		p.Timeout, p.Until = e.timeout, e.until
		n.Receive(12, p)
		n.Run(40, 0)
		n.Run(41, 0)
		for now := 41; now < e.ends; now++ {
			if x := n.Timer(now); len(x.Events) > 0 || len(x.Packets) != 2 {
				t.Errorf("Timer(%d): %+v", now, x)
			}
		}
		expectOut(t, "Timer", n.Timer(e.ends), packets(stops(2, attempt(1, 1)), stops(3, attempt(2, 1))), events(guests(stopped, e.ends, 1, e.code, 0)))
		expectKeys(t, n)
		expectOut(t, "Timer", n.Timer(e.ends), nil, nil)
	}
	// Both are past: the deadline is told.
	n := begun(t, config(), 1, progWork)
	expectOut(t, "Timer", n.Timer(500), nil, events(guests(stopped, 500, 1, deadline, 0)))
	// A root goes on up to its deadline, whatever its lease.
	c := config()
	c.Wait = 1000
	n = rootAt(t, c)
	expectOut(t, "Timer", n.Timer(109), packets(keeps(2, attempt(2, 1), 159)), nil)
	expectOut(t, "Timer", n.Timer(110), packets(stops(2, attempt(2, 1))), events(rooted(ended, 110, 1, deadline, 0)))
	expectKeys(t, n)
}

func TestTimerLosesAndTriesAgain(t *testing.T) {
	n := rootAt(t, config())
	expectOut(t, "Timer", n.Timer(29), packets(keeps(2, attempt(2, 1), 79)), nil)
	// Lost: it is told to stop, as it may still be at it, and it costs a token.
	expectOut(t, "Timer", n.Timer(30), packets(stops(2, attempt(2, 1))), nil)
	first := firstCall()
	first.State, first.Ready = resting, 30+rests(2, 1)
	want := firstRoot(first)
	want.Until = 80
	expectOwner(t, n, want)
	if n.Tokens() != 9000 {
		t.Error(n.Tokens())
	}
	// Rested: the second attempt, with the lease that it has then, ahead of the new one.
	expectOut(t, "Timer", n.Timer(first.Ready-1), nil, nil)
	x := n.Timer(first.Ready)
	p := asked(1, 2, 2, 0, first.Ready, "", first.Ready+49)
	p.Timeout = x.Packets[0].Timeout
	expectOut(t, "Timer", x, packets(p, keeps(2, attempt(2, 2), first.Ready+50)), events(below(sent, first.Ready, 1, 2, 0)))
	// The third one is the last one; whom it waits for is another one then.
	n.Receive(60, push(attempt(2, 2), 0))
	x = n.Timer(60)
	expectOut(t, "Timer", x, packets(asked(1, 3, 2, 0, 60, "50u", first.Ready+50), keeps(2, attempt(2, 3), 110)), events(below(sent, 60, 1, 3, 0)))
	expectOut(t, "Timer", n.Timer(79), packets(keeps(2, attempt(2, 3), 129)), nil)
	expectOut(t, "Timer", n.Timer(80), packets(stops(2, attempt(2, 3))), events(rooted(ended, 80, 1, unavailable, 0)))
	expectKeys(t, n)
	if n.Tokens() != 7000 {
		t.Error(n.Tokens())
	}
}

func TestTimerTriesNobodyAgainWithoutTokens(t *testing.T) {
	c := config()
	c.Tokens = 2
	n := rootAt(t, c)
	expectOut(t, "Timer", n.Timer(30), packets(stops(2, attempt(2, 1))), events(rooted(ended, 30, 1, unavailable, 0)))
	if n.Tokens() != 1000 {
		t.Error(n.Tokens())
	}
}

func TestTimerEndsWhomItCannotTryAgain(t *testing.T) {
	// Rested, but as Timer was asked late, less than Least is left: over with DEADLINE_EXCEEDED, though not yet settled.
	n := rootAt(t, config())
	n.Receive(15, push(attempt(2, 1), 30))
	expectOut(t, "Timer", n.Timer(106), nil, nil)
	first := firstCall()
	first.State, first.Code = over, deadline
	want := firstRoot(first)
	want.Until = 156
	expectOwner(t, n, want)
	expectOut(t, "Timer", n.Timer(110), nil, events(rooted(ended, 110, 1, deadline, 0)))
}

func TestTimerIsAsExactAsItsGrain(t *testing.T) {
	for grain := 0; grain <= 6; grain++ {
		c := config()
		c.Grain, c.Lease = grain, 1000
		// What is due at a time is done at the next multiple of the grain, not ahead of that.
		up := func(at int) int {
			for at%(1<<grain) != 0 {
				at++
			}
			return at
		}
		n := begun(t, c, 1, progWork)
		expectCount(t, n.Timer(up(60)-1), stopped, 0)
		expectCount(t, n.Timer(up(60)), stopped, 1)
		c.Wait = 33
		n = rootAt(t, c)
		expectCount(t, n.Timer(up(43)-1), sent, 0)
		if n.Tokens() != 10000 {
			t.Errorf("grain %d: lost early", 1<<grain)
		}
		n.Timer(up(43))
		if n.Tokens() != 9000 {
			t.Errorf("grain %d: not lost", 1<<grain)
		}
		n = made(t, c, me)
		n.Issue(10, 2, 0, 300)
		n.Receive(70, push(attempt(2, 1), 7))
		expectCount(t, n.Timer(up(77)-1), sent, 0)
		expectCount(t, n.Timer(up(77)), sent, 1)
		c.Wait = 1000
		n = rootAt(t, c)
		expectCount(t, n.Timer(up(110)-1), ended, 0)
		expectCount(t, n.Timer(up(110)), ended, 1)
	}
}

// expectCount tells whether just so many events of a kind are told.
func expectCount(t *testing.T, x node.Out, kind, want int) {
	t.Helper()
	count := 0
	for _, e := range x.Events {
		if e.Kind == kind {
			count++
		}
	}
	if count != want {
		t.Errorf("%d of the kind %d, not %d: %+v", count, kind, want, x)
	}
}

func TestTimerDoesWhatIsDueByKeys(t *testing.T) {
	c := config()
	c.Lease, c.Wait, c.Attempts = 1000, 20, 2
	n := made(t, c, me)
	n.Issue(10, 2, 0, 100)
	n.Issue(10, 3, 0, 20)
	n.Issue(10, 0, 0, 100)
	p := asks(1, progWork)
	p.Until, p.Timeout = 30, "50u"
	n.Receive(11, p)
	p = asks(2, progWork)
	p.Key = attempt(4, 1)
	p.Until = 30
	n.Receive(11, p)
	// The second root ends, so that nothing of its call is done, though that is lost; an attempt of the same key as that one's stops.
	x := n.Timer(30)
	own := guests(stopped, 30, 2, cancelled, 0)
	own.Key = attempt(4, 1)
	expectOut(t, "Timer", x, packets(stops(2, attempt(2, 1)), stops(3, attempt(4, 1)), stops(0, attempt(6, 1))),
		events(rooted(ended, 30, 3, deadline, 0), own, guests(stopped, 30, 1, cancelled, 0)))
	expectKeys(t, n, attempt(1, 0), attempt(5, 0))
	if n.Tokens() != 8000 {
		t.Error(n.Tokens())
	}
}

func TestTimerDoesOfOneKeyFirstWhoEnds(t *testing.T) {
	// An attempt runs here that this node itself asked for: it ends first, then the call is lost.
	c := config()
	c.Attempts, c.Lease = 1, 20
	n := made(t, c, me)
	_, x, _ := n.Issue(10, me, progWork, 100)
	y, e := n.Receive(10, x.Packets[0])
	own := below(started, 10, 1, 1, 0)
	expectDone(t, "Receive", y, e, nil, events(own))
	own.Kind, own.Local, own.Code = stopped, 30, cancelled
	expectOut(t, "Timer", n.Timer(30), packets(stops(me, attempt(2, 1))), events(own, rooted(ended, 30, 1, unavailable, 0)))
	expectKeys(t, n)
}

func TestTimerDoesNothingOfWhoIsGone(t *testing.T) {
	// One call of an attempt is lost, and another one has rested, when the attempt itself ends: by keys its calls come first here, and last there.
	for _, first := range []bool{true, false} {
		c := config()
		c.Wait = 20
		n := made(t, c, me)
		p := asks(1, progMany)
		p.Until = 40
		if !first {
			p.Key.Id.Node = 0
		}
		n.Receive(12, p)
		n.Run(13, 0)
		n.Run(14, 0)
		n.Receive(15, push(attempt(2, 1), 20))
		x := n.Timer(40)
		gone := guests(stopped, 40, 1, cancelled, 0)
		gone.Key = p.Key
		if first {
			again := spawned(p.Key, 2, 3, 1, 40, "70u")
			again.Key.Att, again.Until = 2, 40
			resent := spawning(40, p.Key, 2)
			resent.Key.Att = 2
			expectOut(t, "Timer", x, packets(stops(2, attempt(1, 1)), again, stops(3, attempt(2, 2))), events(resent, gone))
		} else {
			expectOut(t, "Timer", x, packets(stops(2, attempt(1, 1))), events(gone))
		}
		expectKeys(t, n)
		expectOut(t, "Timer", n.Timer(200), nil, nil)
	}
}

func TestRunWorksAndAnswers(t *testing.T) {
	n := begun(t, config(), 1, progWork)
	want := hosted(asks(1, progWork))
	for k, now := range []int{13, 14} {
		x, e := n.Run(now, 0)
		expectDone(t, "Work", x, e, nil, events(guests(worked, now, 1, 0, 0)))
		want.PC, want.Done = k, 1-k
		expectOwner(t, n, want)
	}
	x, e := n.Run(15, 0)
	expectDone(t, "Answer", x, e, packets(answers(guest(1), ok, 7)), events(guests(replied, 15, 1, ok, 7)))
	expectKeys(t, n)
	// The end of a program answers, too.
	n = begun(t, config(), 1, progEmpty)
	x, e = n.Run(13, 0)
	expectDone(t, "end", x, e, packets(answers(guest(1), ok, 0)), events(guests(replied, 13, 1, ok, 0)))
	expectKeys(t, n)
}

func TestRunSpawnsAndJoins(t *testing.T) {
	n := begun(t, config(), 1, progSpawn)
	x, e := n.Run(13, 0)
	expectDone(t, "Spawn", x, e, packets(spawned(guest(1), 1, 2, progWork, 13, "97u")), events(guests(worked, 13, 1, 0, 0), spawning(13, guest(1), 1)))
	want := hosted(asks(1, progSpawn))
	want.PC, want.Calls = 1, []call.Call{{Id: id(1), To: 2, Att: 1, State: waiting, Sent: 13, Tries: 1}}
	expectOwner(t, n, want)
	for _, now := range []int{14, 15} {
		x, e = n.Run(now, 0)
		expectDone(t, "Join waits", x, e, nil, nil)
		expectOwner(t, n, want)
	}
	n.Receive(16, reply(attempt(1, 1), ok, 7))
	x, e = n.Run(17, 0)
	expectDone(t, "Join", x, e, nil, events(guests(worked, 17, 1, 0, 0)))
	x, e = n.Run(18, 0)
	expectDone(t, "Answer", x, e, packets(answers(guest(1), ok, 12)), events(guests(replied, 18, 1, ok, 12)))
	expectKeys(t, n)
	// What failed below is told.
	n = begun(t, config(), 1, progSpawn)
	n.Run(13, 0)
	n.Receive(14, reply(attempt(1, 1), 11, 0))
	x, e = n.Run(15, 0)
	expectDone(t, "Join fails", x, e, packets(answers(guest(1), 11, 0)), events(guests(replied, 15, 1, 11, 0)))
	expectKeys(t, n)
}

func TestRunSpawnsNoMoreThanItMay(t *testing.T) {
	for _, done := range []bool{false, true} {
		n := begun(t, config(), 1, progMany)
		n.Run(13, 0)
		x, e := n.Run(14, 0)
		expectDone(t, "Spawn", x, e, packets(spawned(guest(1), 2, 3, progSpawn, 14, "96u")), events(guests(worked, 14, 1, 0, 0), spawning(14, guest(1), 2)))
		told := packets(answers(guest(1), exhausted, 0), stops(2, attempt(1, 1)), stops(3, attempt(2, 1)))
		if done {
			// Calls that are over count, too.
			n.Receive(14, reply(attempt(1, 1), ok, 1))
			told = slices.Delete(told, 1, 2)
		}
		x, e = n.Run(15, 0)
		expectDone(t, "Spawn fails", x, e, told, events(guests(replied, 15, 1, exhausted, 0)))
		expectKeys(t, n)
		// No name was given for it.
		if root, _, _ := n.Issue(16, 2, 0, 9); root != id(3) {
			t.Error(root)
		}
	}
	c := config()
	c.Fan = 3
	n := begun(t, c, 1, progMany)
	for range 3 {
		n.Run(13, 0)
	}
	expectKeys(t, n, guest(1))
	if o, _ := n.Owner(guest(1)); len(o.Calls) != 3 || o.PC != 3 {
		t.Error(o)
	}
}

func TestRunSpawnsWhatIsNotSent(t *testing.T) {
	// At the last hop, or with too little time left, the call is over at once, which Join finds.
	deep := asks(1, progSpawn)
	deep.Hop = 3
	late := asks(1, progSpawn)
	late.Until = 200
	for _, e := range []struct {
		p         api.Packet
		now, code int
	}{{deep, 13, exhausted}, {late, 106, deadline}} {
		n := made(t, config(), me)
		n.Receive(12, e.p)
		happened := guests(worked, e.now, 1, 0, 0)
		happened.Hop = e.p.Hop
		x, no := n.Run(e.now, 0)
		expectDone(t, "Spawn", x, no, nil, events(happened))
		want := hosted(e.p)
		want.PC, want.Calls = 1, []call.Call{{Id: id(1), To: 2, State: over, Code: e.code}}
		expectOwner(t, n, want)
		happened.Kind, happened.Code = replied, e.code
		x, no = n.Run(e.now, 0)
		expectDone(t, "Join", x, no, packets(answers(guest(1), e.code, 0)), events(happened))
	}
}

func TestRunHeads(t *testing.T) {
	n := begun(t, config(), 1, progHead)
	x, e := n.Run(13, 0)
	told := answers(guest(1), 0, 0)
	told.More = true
	expectDone(t, "Head", x, e, packets(told), events(guests(worked, 13, 1, 0, 0)))
	want := hosted(asks(1, progHead))
	want.PC = 1
	expectOwner(t, n, want)
	x, e = n.Run(14, 0)
	expectDone(t, "Answer", x, e, packets(answers(guest(1), ok, 1)), events(guests(replied, 14, 1, ok, 1)))
}

func TestRunFailsAndRefuses(t *testing.T) {
	for _, e := range []struct {
		prog int
		told api.Packet
		code int
	}{{progFail, answers(guest(1), 9, 0), 9}, {progRefuse, refuses(guest(1), 30), unavailable}} {
		n := begun(t, config(), 1, e.prog)
		n.Run(13, 0)
		x, no := n.Run(14, 0)
		expectDone(t, "Run", x, no, packets(e.told, stops(2, attempt(1, 1))), events(guests(replied, 14, 1, e.code, 0)))
		expectKeys(t, n)
		x, no = n.Receive(15, asks(1, e.prog))
		expectDone(t, "seen", x, no, nil, nil)
	}
	n := begun(t, config(), 1, progNever)
	x, e := n.Run(13, 0)
	expectDone(t, "Refuse", x, e, packets(refuses(guest(1), -1)), events(guests(replied, 13, 1, unavailable, 0)))
}

func TestRunAnswersAndStopsWhomItWaitsFor(t *testing.T) {
	c := config()
	c.Programs[progMany] = []api.Op{{Kind: api.Spawn, A: 2}, {Kind: api.Spawn, A: 3}, {Kind: api.Answer, A: 4}}
	n := begun(t, c, 1, progMany)
	n.Run(13, 0)
	n.Run(13, 0)
	n.Receive(14, reply(attempt(1, 1), ok, 20))
	x, e := n.Run(15, 0)
	expectDone(t, "Answer", x, e, packets(answers(guest(1), ok, 24), stops(3, attempt(2, 1))), events(guests(replied, 15, 1, ok, 24)))
}

func TestRunStopsWhoseTimeIsOver(t *testing.T) {
	for _, e := range []struct{ now, code int }{{60, cancelled}, {109, cancelled}, {110, deadline}, {500, deadline}} {
		n := begun(t, config(), 1, progSpawn)
		n.Run(13, 0)
		x, no := n.Run(e.now, 0)
		expectDone(t, "Run", x, no, packets(stops(2, attempt(1, 1))), events(guests(stopped, e.now, 1, e.code, 0)))
		expectKeys(t, n)
		expectOut(t, "Timer", n.Timer(e.now), nil, nil)
	}
	// As far as its time goes, whatever the grain.
	c := config()
	c.Grain = 6
	n := begun(t, c, 1, progWork)
	expectOut(t, "Timer", n.Timer(60), nil, nil)
	x, e := n.Run(59, 0)
	expectDone(t, "Run", x, e, nil, events(guests(stopped, 60, 1, cancelled, 0)))
}

func TestRunTakesThoseThatRunByPlace(t *testing.T) {
	n := made(t, config(), me)
	n.Issue(9, 2, 0, 100)
	for _, seq := range []int{3, 1, 2} {
		n.Receive(12, asks(seq, progHead))
	}
	for _, k := range []int{math.MinInt, -1, 3, 4, math.MaxInt} {
		x, e := n.Run(500, k)
		expectRefused(t, "Run", x, e, api.ErrNone)
	}
	for k := range 3 {
		x, e := n.Run(13, k)
		told := answers(guest(k+1), 0, 0)
		told.More = true
		expectDone(t, "Run", x, e, packets(told), events(guests(worked, 13, k+1, 0, 0)))
	}
	x, e := n.Run(14, 1)
	expectDone(t, "Run", x, e, packets(answers(guest(2), ok, 1)), events(guests(replied, 14, 2, ok, 1)))
	x, e = n.Run(14, 1)
	expectDone(t, "Run", x, e, packets(answers(guest(3), ok, 1)), events(guests(replied, 14, 3, ok, 1)))
	x, e = n.Run(500, 1)
	expectRefused(t, "Run", x, e, api.ErrNone)
	n.Run(14, 0)
	x, e = n.Run(500, 0)
	expectRefused(t, "Run", x, e, api.ErrNone)
	expectKeys(t, n, attempt(1, 0))
}

func TestCrashForgetsAllButItsTime(t *testing.T) {
	n := rootAt(t, config())
	n.Receive(12, asks(1, progSpawn))
	n.Run(13, 0)
	n.Receive(14, reply(attempt(2, 1), internal, 0))
	n.Issue(14, 2, 0, 100)
	expectOut(t, "Crash", n.Crash(20), nil, events(api.Event{Kind: crashed, Node: me, Local: 20}))
	expectKeys(t, n)
	if n.Inc() != 1 || n.Tokens() != 10000 || len(n.Under(id(1))) != 0 {
		t.Error(n.Inc(), n.Tokens(), n.Under(id(1)))
	}
	// What was due is not due any more, and what was asked for nobody waits for.
	for _, p := range []api.Packet{reply(attempt(3, 1), ok, 1), push(attempt(5, 1), 0), cancel(guest(1)), keep(guest(1), 90)} {
		x, e := n.Receive(20, p)
		expectDone(t, "Receive", x, e, nil, nil)
	}
	expectOut(t, "Timer", n.Timer(21), nil, nil)
	expectOut(t, "Timer", n.Timer(30), nil, nil)
	// Who was seen is seen anew; its time stays.
	x, e := n.Receive(0, asks(1, progSpawn))
	expectDone(t, "Receive", x, e, nil, events(guests(started, 30, 1, 0, 0)))
	// Names are given anew, in the next incarnation.
	root, x, e := n.Issue(0, 2, 0, 100)
	if want := (api.Id{Node: me, Inc: 1, Seq: 1}); root != want || e != api.OK || x.Packets[0].Key.Id != (api.Id{Node: me, Inc: 1, Seq: 2}) || x.Packets[0].Stamp != 30 {
		t.Error(root, x, e)
	}
	expectOut(t, "Crash", n.Crash(math.MaxInt), nil, events(api.Event{Kind: crashed, Node: me, Local: tick}))
	expectOut(t, "Crash", n.Crash(0), nil, events(api.Event{Kind: crashed, Node: me, Local: tick}))
	if n.Inc() != 3 {
		t.Error(n.Inc())
	}
}

func TestCrashUpToTheLastIncarnation(t *testing.T) {
	n := made(t, config(), me)
	for k := range mostInc + 3 {
		if want := min(k, mostInc); n.Inc() != want {
			t.Fatal(n.Inc(), want)
		}
		n.Crash(k)
	}
	root, x, e := n.Issue(0, 2, 0, 100)
	if want := (api.Id{Node: me, Inc: mostInc, Seq: 1}); root != want || e != api.OK || len(x.Packets) != 1 {
		t.Error(root, x, e)
	}
}

func TestTimeNeverGoesBack(t *testing.T) {
	n := made(t, config(), me)
	n.Issue(40, 2, 0, 100)
	for what, do := range map[string]func() (node.Out, int){
		"Issue":   func() (node.Out, int) { _, x, _ := n.Issue(3, 2, 0, 100); return x, 2 },
		"Cancel":  func() (node.Out, int) { n.Issue(3, 2, 0, 100); x, _ := n.Cancel(-9, lastRoot(n)); return x, 2 },
		"Receive": func() (node.Out, int) { x, _ := n.Receive(3, asks(len(n.Keys()), progHead)); return x, 1 },
		"Run":     func() (node.Out, int) { n.Receive(3, asks(200, progHead)); x, _ := n.Run(math.MinInt, 0); return x, 1 },
		"Crash":   func() (node.Out, int) { return n.Crash(39), 1 },
	} {
		x, count := do()
		if len(x.Events) != count {
			t.Errorf("%s: %+v", what, x)
		}
		for _, e := range x.Events {
			if e.Local != 40 {
				t.Errorf("%s: %+v", what, x)
			}
		}
	}
	n = rootAt(t, config())
	n.Receive(29, push(attempt(9, 1), 0))
	expectOut(t, "Timer", n.Timer(3), packets(keeps(2, attempt(2, 1), 79)), nil)
	// Each deed goes on, even one that does nothing else; Timer does what is due where it is then.
	n.Receive(30, push(attempt(9, 1), 0))
	expectOut(t, "Timer", n.Timer(3), packets(stops(2, attempt(2, 1))), nil)
}

// lastRoot is the root that was issued last.
func lastRoot(n *node.Node) api.Id {
	roots := slices.DeleteFunc(n.Keys(), func(k api.Key) bool { return k.Att != 0 })
	return roots[len(roots)-1].Id
}

func TestNilNodesDoNothing(t *testing.T) {
	source := rootAt(t, config())
	copied := *source
	for what, n := range map[string]*node.Node{"nil": nil, "zero": {}, "copied": &copied} {
		expectKeys(t, n)
		if o, has := n.Owner(attempt(1, 0)); has || !reflect.DeepEqual(o, owner.Owner{}) {
			t.Error(what, o, has)
		}
		if n.Inc() != 0 || n.Tokens() != 0 || len(n.Under(id(1))) != 0 {
			t.Error(what, n.Inc(), n.Tokens(), n.Under(id(1)))
		}
		for _, a := range [][3]int{{0, 0, 9}, {-1, -1, -1}} {
			root, x, e := n.Issue(10, a[0], a[1], a[2])
			expectRefused(t, what, x, e, api.ErrNil)
			if root != (api.Id{}) {
				t.Error(what, root)
			}
		}
		x, e := n.Cancel(10, id(1))
		expectRefused(t, what, x, e, api.ErrNil)
		for _, p := range []api.Packet{asks(1, 0), {}, reply(attempt(2, 1), ok, 1)} {
			x, e = n.Receive(10, p)
			expectRefused(t, what, x, e, api.ErrNil)
		}
		for _, k := range []int{-1, 0, 1} {
			x, e = n.Run(10, k)
			expectRefused(t, what, x, e, api.ErrNil)
		}
		expectOut(t, what, n.Timer(900), nil, nil)
		expectOut(t, what, n.Crash(900), nil, nil)
	}
	// Whom it was copied from goes on unharmed.
	expectOwner(t, source, firstRoot(firstCall()))
}

func TestWhatIsHandedInAndAnsweredStays(t *testing.T) {
	// Programs that are changed behind New change no node; what lies behind a list's length is left alone.
	c := config()
	all := append(slices.Clone(c.Programs), []api.Op{{Kind: 99}})
	steps := []api.Op{{Kind: api.Work, A: 2}, {Kind: api.Answer, A: 7}, {Kind: 98}}
	all[progWork] = steps[:2]
	c.Programs = all[:progCount]
	n := made(t, c, me)
	steps[0], steps[1] = api.Op{Kind: api.Fail, A: 3}, api.Op{Kind: api.Fail, A: 4}
	all[progHead] = nil
	n.Receive(12, asks(1, progWork))
	n.Receive(12, asks(2, progHead))
	n.Run(13, 0)
	n.Run(13, 0)
	x, e := n.Run(14, 0)
	expectDone(t, "Answer", x, e, packets(answers(guest(1), ok, 7)), events(guests(replied, 14, 1, ok, 7)))
	x, _ = n.Run(14, 0)
	if len(x.Packets) != 1 || !x.Packets[0].More {
		t.Error(x)
	}
	if all[progCount][0].Kind != 99 || steps[2].Kind != 98 {
		t.Error(all, steps)
	}
	// Lists that are answered may be changed.
	n = rootAt(t, config())
	n.Receive(12, asks(1, progMany))
	n.Run(13, 0)
	for range 2 {
		o, _ := n.Owner(guest(1))
		o.Calls[0] = call.Call{}
		clear(append(n.Keys(), n.Keys()...))
		clear(n.Keys())
		clear(n.Running())
		clear(n.Under(id(1)))
		x := n.Timer(14)
		if len(x.Packets) != 2 {
			t.Error(x)
		}
		clear(x.Packets)
	}
	if o, _ := n.Owner(guest(1)); o.Calls[0].Id != id(1+2) {
		t.Error(o)
	}
	expectKeys(t, n, attempt(1, 0), guest(1))
}
