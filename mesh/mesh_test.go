package mesh_test

import (
	"math"
	"slices"
	"testing"

	"hourglass/api"
	"hourglass/call"
	"hourglass/mesh"
	"hourglass/owner"
	"hourglass/packet"
)

// The kinds, the codes and the limits are written out, so that a test tells when they are taken wrongly.
const (
	doTick    = 1
	doShift   = 2
	doTimer   = 3
	doRun     = 4
	doDeliver = 5
	doDrop    = 6
	doTwice   = 7
	doHurt    = 8
	doIssue   = 9
	doCancel  = 10
	doCrash   = 11

	issued    = 1
	sent      = 2
	started   = 3
	worked    = 4
	stopped   = 5
	replied   = 6
	ended     = 7
	dropped   = 8
	crashed   = 9
	pushed    = 10
	committed = 11

	kindCall   = 1
	kindReply  = 2
	kindCancel = 3
	kindKeep   = 4

	ok        = 0
	cancelled = 1

	tick       = 1 << 50
	mostFlight = 256
	mostRoots  = 64
)

// The programs of config.
const (
	progWork = iota
	progSpawn
	progNever
	progHead
	progCount
)

// config is one of three nodes that may be, of which all settings are apart.
func config() api.Config {
	programs := make([][]api.Op, progCount)
	programs[progWork] = []api.Op{{Kind: api.Work, A: 2}, {Kind: api.Answer, A: 7}}
	programs[progSpawn] = []api.Op{{Kind: api.Spawn, A: 2, B: progWork}, {Kind: api.Join}, {Kind: api.Answer, A: 5}}
	programs[progNever] = []api.Op{{Kind: api.Refuse, A: -1}}
	programs[progHead] = []api.Op{{Kind: api.Head}, {Kind: api.Answer, A: 1}}
	return api.Config{
		Nodes: 3, Skew: 4, Lease: 50, Least: 5, Hops: 3, Cap: 6, Fan: 2, Attempts: 3, Base: 7, Most: 9, Wait: 20, Tokens: 10,
		Programs: programs,
	}
}

func made(t *testing.T, c api.Config) *mesh.Mesh {
	t.Helper()
	m, e := mesh.New(c)
	if m == nil || e != api.OK {
		t.Fatalf("New(%+v) = %v, %d", c, m, e)
	}
	return m
}

// step is a step of a kind, with as many numbers as it needs.
func step(kind int, numbers ...int) mesh.Step {
	var all [4]int
	copy(all[:], numbers)
	return mesh.Step{Kind: kind, A: all[0], B: all[1], C: all[2], D: all[3]}
}

func do(t *testing.T, m *mesh.Mesh, l ...mesh.Step) {
	t.Helper()
	for k, s := range l {
		if e := m.Do(s); e != api.OK {
			t.Fatalf("step %d, %+v: error %d", k, s, e)
		}
	}
}

func expectError(t *testing.T, m *mesh.Mesh, s mesh.Step, want api.Errno) {
	t.Helper()
	if e := m.Do(s); e != want {
		t.Errorf("%+v: error %d, not %d", s, e, want)
	}
}

// looked is all that can be seen of a mesh.
type looked struct {
	real, flights, lost int
	way                 []string
	keys, running       [][]api.Key
	owners              []owner.Owner
	events              []api.Event
}

func look(m *mesh.Mesh, nodes int) looked {
	l := looked{real: m.Real(), flights: m.Flights(), lost: m.Lost(), events: m.Events()}
	for k := range m.Flights() {
		s, _ := m.Look(k)
		l.way = append(l.way, s)
	}
	for i := range nodes {
		l.keys, l.running = append(l.keys, m.Keys(i)), append(l.running, m.Running(i))
		for _, k := range m.Keys(i) {
			o, _ := m.Owner(i, k)
			l.owners = append(l.owners, o)
		}
	}
	return l
}

func sameKeys(a, b [][]api.Key) bool {
	return slices.EqualFunc(a, b, func(x, y []api.Key) bool { return slices.Equal(x, y) })
}

func same(a, b looked) bool {
	return a.real == b.real && a.flights == b.flights && a.lost == b.lost && slices.Equal(a.way, b.way) &&
		sameKeys(a.keys, b.keys) && sameKeys(a.running, b.running) && slices.EqualFunc(a.owners, b.owners, owner.Same) && slices.Equal(a.events, b.events)
}

// expectNothing asks that a step tells an error, and that nothing that is to be seen is another one.
func expectNothing(t *testing.T, m *mesh.Mesh, nodes int, s mesh.Step, want api.Errno) {
	t.Helper()
	before := look(m, nodes)
	expectError(t, m, s, want)
	if after := look(m, nodes); !same(before, after) {
		t.Errorf("%+v, error %d: %+v, not %+v", s, want, after, before)
	}
}

// others are the numbers of none of so many.
func others(n int) []int {
	return []int{math.MinInt, math.MinInt + 1, -tick, -65, -2, -1, n, n + 1, 1000, tick, math.MaxInt - 1, math.MaxInt}
}

// edges are ordinary numbers, and those that are far out.
func edges() []int {
	return []int{math.MinInt, -tick, -1, 0, 1, 2, 3, 1 << 31, tick, math.MaxInt}
}

func expectEvents(t *testing.T, m *mesh.Mesh, want ...api.Event) {
	t.Helper()
	if got := m.Events(); !slices.Equal(got, want) {
		t.Errorf("happened:\n%+v\nnot\n%+v", got, want)
	}
}

// local tells the node's clock at what happened last, and the real time then.
func local(t *testing.T, m *mesh.Mesh) (int, int) {
	t.Helper()
	l := m.Events()
	if len(l) == 0 {
		t.Fatal("nothing happened")
	}
	return l[len(l)-1].Local, l[len(l)-1].Real
}

func expectLocal(t *testing.T, m *mesh.Mesh, node, want int) {
	t.Helper()
	do(t, m, step(doCrash, node))
	if at, _ := local(t, m); at != want {
		t.Errorf("the node %d is at %d, not at %d", node, at, want)
	}
}

// onWay are the packets on their way; the test fails, if one may not be.
func onWay(t *testing.T, m *mesh.Mesh) []api.Packet {
	t.Helper()
	var l []api.Packet
	for k := range m.Flights() {
		s, e := m.Look(k)
		p, bad := packet.Parse(s)
		if e != api.OK || bad != api.OK {
			t.Errorf("the flight %d, %q: errors %d and %d", k, s, e, bad)
		}
		l = append(l, p)
	}
	return l
}

func expectWay(t *testing.T, m *mesh.Mesh, want ...api.Packet) {
	t.Helper()
	if got := onWay(t, m); !slices.Equal(got, want) {
		t.Errorf("on their way:\n%+v\nnot\n%+v", got, want)
	}
}

func expectKeys(t *testing.T, what string, got []api.Key, want ...api.Key) {
	t.Helper()
	if !slices.Equal(got, want) {
		t.Errorf("%s: %+v, not %+v", what, got, want)
	}
}

// name is an identity that a node gives in its first incarnation.
func name(node, seq int) api.Id { return api.Id{Node: node, Seq: seq} }

// root is the key of a root of such a name.
func root(node, seq int) api.Key { return api.Key{Id: name(node, seq)} }

// first is the key of the first attempt of a call of such a name.
func first(node, seq int) api.Key { return api.Key{Id: name(node, seq), Att: 1} }

func TestKindsOfSteps(t *testing.T) {
	got := []int{mesh.Tick, mesh.Shift, mesh.Timer, mesh.Run, mesh.Deliver, mesh.Drop, mesh.Twice, mesh.Hurt, mesh.Issue, mesh.Cancel, mesh.Crash}
	want := []int{doTick, doShift, doTimer, doRun, doDeliver, doDrop, doTwice, doHurt, doIssue, doCancel, doCrash}
	if !slices.Equal(got, want) {
		t.Error(got)
	}
}

func TestNewRefuses(t *testing.T) {
	for k, spoil := range []func(c *api.Config){
		func(c *api.Config) { *c = api.Config{} },
		func(c *api.Config) { c.Nodes = 0 },
		func(c *api.Config) { c.Nodes = -1 },
		func(c *api.Config) { c.Nodes = 65 },
		func(c *api.Config) { c.Nodes = math.MaxInt },
		func(c *api.Config) { c.Nodes = math.MinInt },
		func(c *api.Config) { c.Nodes = 2 }, // a program calls the node 2
		func(c *api.Config) { c.Skew = -1 },
		func(c *api.Config) { c.Skew = 1001 },
		func(c *api.Config) { c.Lease = 0 },
		func(c *api.Config) { c.Grain = 7 },
		func(c *api.Config) { c.Hops = 17 },
		func(c *api.Config) { c.Cap = 65 },
		func(c *api.Config) { c.Most = c.Base - 1 },
		func(c *api.Config) { c.Programs = nil },
		func(c *api.Config) { c.Programs = make([][]api.Op, 17) },
		func(c *api.Config) { c.Programs[3] = []api.Op{{Kind: 8}} },
		func(c *api.Config) { c.Programs[1][0].B = progCount },
	} {
		c := config()
		spoil(&c)
		if m, e := mesh.New(c); m != nil || e != api.ErrArg {
			t.Errorf("%d: New(%+v) = %v, %d", k, c, m, e)
		}
	}
}

func TestNewIsQuiet(t *testing.T) {
	for _, nodes := range []int{1, 2, 3, 63, 64} {
		for _, skew := range []int{0, 1, 1000} {
			c := config()
			c.Nodes, c.Skew, c.Programs = nodes, skew, make([][]api.Op, 1)
			m := made(t, c)
			if m.Real() != 0 || m.Flights() != 0 || m.Lost() != 0 || len(m.Events()) != 0 {
				t.Errorf("%d nodes: %+v", nodes, look(m, nodes))
			}
			if s, e := m.Look(0); s != "" || e != api.ErrNone {
				t.Errorf("Look(0) = %q, %d", s, e)
			}
			for i := range nodes {
				if len(m.Keys(i))+len(m.Running(i)) != 0 {
					t.Errorf("%d nodes: there are owners at the node %d", nodes, i)
				}
				do(t, m, step(doIssue, i, nodes-1-i, 0, 90))
			}
			for i := range nodes {
				do(t, m, step(doDeliver, 0))
				if to := nodes - 1 - i; !slices.Equal(m.Running(to), []api.Key{first(i, 2)}) {
					t.Errorf("%d nodes: at the node %d run %+v", nodes, to, m.Running(to))
				}
			}
			expectError(t, m, step(doTimer, nodes), api.ErrNone)
		}
	}
}

func TestNewKeepsNoProgramOfWhoHandsItIn(t *testing.T) {
	c := config()
	m, want := made(t, c), made(t, config())
	c.Programs[progWork][0] = api.Op{Kind: api.Fail, A: 9}
	c.Programs[progWork][1].A = 8
	c.Programs[progSpawn] = nil
	for _, x := range []*mesh.Mesh{m, want} {
		do(t, x, step(doIssue, 0, 1, progSpawn, 90), step(doDeliver), step(doRun, 1), step(doDeliver), step(doRun, 2), step(doRun, 2), step(doRun, 2))
		do(t, x, step(doDeliver), step(doRun, 1), step(doRun, 1), step(doDeliver))
	}
	if !same(look(m, 3), look(want, 3)) {
		t.Errorf("%+v, not %+v", look(m, 3), look(want, 3))
	}
}

// idle asks that a mesh does nothing.
func idle(t *testing.T, what string, m *mesh.Mesh) {
	t.Helper()
	if m.Real() != 0 || m.Flights() != 0 || m.Lost() != 0 || len(m.Events()) != 0 || len(m.Under(name(0, 1))) != 0 {
		t.Errorf("%s: %+v", what, look(m, 1))
	}
	for _, k := range edges() {
		if s, e := m.Look(k); s != "" || e != api.ErrNil {
			t.Errorf("%s: Look(%d) = %q, %d", what, k, s, e)
		}
		if len(m.Keys(k))+len(m.Running(k)) != 0 {
			t.Errorf("%s: there are owners at the node %d", what, k)
		}
		if o, has := m.Owner(k, root(0, 1)); has || !owner.Same(o, owner.Owner{}) {
			t.Errorf("%s: Owner(%d) = %+v, %v", what, k, o, has)
		}
		for kind := -1; kind <= 13; kind++ {
			if e := m.Do(step(kind, k, 0, 0, 90)); e != api.ErrNil {
				t.Errorf("%s: kind %d, %d: error %d", what, kind, k, e)
			}
		}
	}
}

func TestANilMeshDoesNothing(t *testing.T) {
	idle(t, "a nil one", nil)
	idle(t, "one that New did not make", &mesh.Mesh{})
	m := made(t, config())
	do(t, m, step(doTick, 5), step(doIssue, 0, 1, 0, 90))
	twin := *m
	before := look(m, 3)
	idle(t, "a copy", &twin)
	if !same(before, look(m, 3)) {
		t.Error("a copy changes the one that it is of")
	}
}

func TestErrKind(t *testing.T) {
	m := made(t, config())
	do(t, m, step(doTick, 5), step(doIssue, 0, 1, 0, 90))
	for _, kind := range []int{math.MinInt, -tick, -11, -1, 0, 12, 13, 64, tick, math.MaxInt} {
		for _, a := range edges() {
			expectNothing(t, m, 3, step(kind, a, 1, 1, 90), api.ErrKind)
		}
	}
}

func TestTick(t *testing.T) {
	m := made(t, config())
	for k, x := range [][2]int{
		{0, 0}, {1, 1}, {10, 11}, {-1, 11}, {math.MinInt, 11}, {0, 11}, {1 << 40, 1<<40 + 11},
		{tick - 1<<40 - 12, tick - 1}, {1, tick}, {1, tick}, {math.MaxInt, tick}, {-5, tick},
	} {
		expectError(t, m, step(doTick, x[0], 9, 9, 9), api.OK)
		if m.Real() != x[1] {
			t.Errorf("%d: the real time is %d, not %d", k, m.Real(), x[1])
		}
	}
	// Whatever it is added to, too great a number is none.
	far := made(t, config())
	do(t, far, step(doTick, math.MaxInt))
	if far.Real() != tick {
		t.Error(far.Real())
	}
	expectLocal(t, far, 0, tick)
	if len(far.Events()) != 1 || far.Flights() != 0 {
		t.Error(look(far, 3))
	}
}

func TestShift(t *testing.T) {
	for _, x := range [][2]int{
		{0, 100}, {1, 101}, {-1, 99}, {4, 104}, {5, 104}, {-4, 96}, {-5, 96}, {tick, 104}, {-tick, 96}, {math.MaxInt, 104}, {math.MinInt, 96},
	} {
		for node := range 3 {
			m := made(t, config())
			do(t, m, step(doTick, 100), step(doShift, node, x[0], 1, 1))
			for other := range 3 {
				want := 100
				if other == node {
					want = x[1]
				}
				expectLocal(t, m, other, want)
			}
			if m.Real() != 100 {
				t.Error(m.Real())
			}
		}
	}
	m := made(t, config())
	do(t, m, step(doTick, 10))
	for _, node := range others(3) {
		expectNothing(t, m, 3, step(doShift, node, 2), api.ErrNone)
	}
	for node := range 3 {
		expectLocal(t, m, node, 10)
	}
	// Apart from real time it is by what was said last, not by all that was said.
	do(t, m, step(doShift, 1, 2), step(doShift, 1, 1))
	expectLocal(t, m, 1, 11)
}

// expectClock asks what a node's clock says behind a step, ahead of which it was 4 ahead, when it is 4 behind then.
func expectClock(t *testing.T, m *mesh.Mesh, node int, s mesh.Step, want api.Errno, says int) {
	t.Helper()
	do(t, m, step(doShift, node, 4))
	expectError(t, m, s, want)
	do(t, m, step(doShift, node, -4))
	expectLocal(t, m, node, says)
}

func TestTheClockIsReadWithAnyErrorBehindThat(t *testing.T) {
	for k, x := range []struct {
		s    mesh.Step
		want api.Errno
	}{
		{step(doTimer, 1), api.OK},
		{step(doRun, 1, 0), api.OK},
		{step(doRun, 1, 1), api.ErrNone},
		{step(doRun, 1, -1), api.ErrNone},
		{step(doIssue, 1, 0, 0, 90), api.OK},
		{step(doIssue, 1, 3, 0, 90), api.ErrArg},
		{step(doIssue, 1, 0, progCount, 90), api.ErrArg},
		{step(doIssue, 1, 0, 0, 0), api.ErrArg},
		{step(doCancel, 1, 0), api.OK},
		{step(doCancel, 1, 1), api.ErrNone},
		{step(doCancel, 1, -1), api.ErrNone},
		{step(doCrash, 1), api.OK},
		{step(doDeliver, 1), api.OK},
	} {
		m := made(t, config())
		do(t, m, step(doIssue, 0, 1, 0, 90), step(doDeliver), step(doIssue, 1, 0, 0, 90), step(doIssue, 0, 1, 0, 90), step(doTick, 10))
		if x.want == api.ErrArg {
			expectNothing(t, m, 3, x.s, x.want)
		}
		t.Logf("step %d", k)
		expectClock(t, m, 1, x.s, x.want, 14)
		// That of no other node is.
		expectLocal(t, m, 0, 10)
		expectLocal(t, m, 2, 10)
	}
}

func TestTheClockIsReadWhenThereAreTooManyRoots(t *testing.T) {
	m := made(t, config())
	for range mostRoots {
		do(t, m, step(doIssue, 1, 0, 0, 900))
	}
	do(t, m, step(doTick, 10))
	expectClock(t, m, 1, step(doIssue, 1, 0, 0, 90), api.ErrFull, 14)
}

func TestTheClockIsNotReadByOtherSteps(t *testing.T) {
	for _, x := range []struct {
		s    mesh.Step
		want api.Errno
	}{
		{step(doTick, 0), api.OK},
		{step(doShift, 1, 4), api.OK},
		{step(doShift, 3, 4), api.ErrNone},
		{step(doDeliver, 2), api.ErrNone},
		{step(doDeliver, -1), api.ErrNone},
		{step(doDeliver, 0), api.ErrSum}, // it is hurt, and goes to the node 1
		{step(doDrop, 1), api.OK},
		{step(doTwice, 1), api.OK},
		{step(doHurt, 1, 0, 1), api.OK},
		{step(doHurt, 0, 0, 1), api.ErrTwice},
		{step(doTimer, 3), api.ErrNone},
		{step(doTimer, 0), api.OK},
		{step(doCrash, 2), api.OK},
		{step(0, 1), api.ErrKind},
		{step(12, 1), api.ErrKind},
	} {
		m := made(t, config())
		do(t, m, step(doIssue, 0, 1, 0, 90), step(doIssue, 2, 1, 0, 90), step(doTick, 10), step(doHurt, 0, 3, 9))
		t.Logf("%+v", x.s)
		expectClock(t, m, 1, x.s, x.want, 6)
	}
	// Nor by who looks.
	m := made(t, config())
	do(t, m, step(doTick, 10), step(doShift, 1, 4))
	look(m, 3)
	m.Under(name(1, 1))
	do(t, m, step(doShift, 1, 0))
	expectLocal(t, m, 1, 10)
}

func TestARootGoesThroughAMesh(t *testing.T) {
	m := made(t, config())
	do(t, m, step(doTick, 10), step(doShift, 1, 3), step(doShift, 0, -2), step(doIssue, 0, 1, progWork, 100))
	r, k := root(0, 1), first(0, 2)
	x := api.Packet{Kind: kindCall, To: 1, Key: k, Hop: 1, Stamp: 8, Timeout: "100u", Until: 58, Root: r.Id, Parent: r}
	expectWay(t, m, x)
	expectKeys(t, "Keys(0)", m.Keys(0), r)
	expectKeys(t, "Under", m.Under(r.Id), r)
	do(t, m, step(doTick, 1), step(doDeliver))
	expectWay(t, m)
	expectKeys(t, "Running(0)", m.Running(0))
	expectKeys(t, "Running(1)", m.Running(1), k)
	expectKeys(t, "Under", m.Under(r.Id), r, k)
	o, has := m.Owner(1, k)
	if want := (owner.Owner{Key: k, Root: r.Id, Parent: r, Hop: 1, Deadline: 108, Until: 58}); !has || !owner.Same(o, want) {
		t.Errorf("%+v, %v", o, has)
	}
	do(t, m, step(doTick, 1), step(doRun, 1), step(doTick, 1), step(doRun, 1), step(doTick, 1), step(doRun, 1))
	expectWay(t, m, api.Packet{Kind: kindReply, From: 1, Key: k, Value: 7})
	do(t, m, step(doTick, 1), step(doDeliver))
	expectWay(t, m)
	expectKeys(t, "Under", m.Under(r.Id))
	expectEvents(t, m,
		api.Event{Kind: issued, Real: 10, Local: 8, Key: r, Root: r.Id, Value: 100},
		api.Event{Kind: sent, Real: 10, Local: 8, Key: k, Parent: r, Root: r.Id, Hop: 1},
		api.Event{Kind: started, Real: 11, Node: 1, Local: 14, Key: k, Parent: r, Root: r.Id, Hop: 1},
		api.Event{Kind: worked, Real: 12, Node: 1, Local: 15, Key: k, Parent: r, Root: r.Id, Hop: 1},
		api.Event{Kind: worked, Real: 13, Node: 1, Local: 16, Key: k, Parent: r, Root: r.Id, Hop: 1},
		api.Event{Kind: replied, Real: 14, Node: 1, Local: 17, Key: k, Parent: r, Root: r.Id, Hop: 1, Value: 7},
		api.Event{Kind: ended, Real: 15, Local: 13, Key: r, Root: r.Id, Value: 7},
	)
}

func TestIssueHandsOnWhatItIsTold(t *testing.T) {
	m := made(t, config())
	for k, x := range []struct {
		s    mesh.Step
		want api.Errno
	}{
		{step(doIssue, 2, 0, progHead, 40), api.OK},
		{step(doIssue, 3, 0, 0, 40), api.ErrNone},
		{step(doIssue, -1, 0, 0, 40), api.ErrNone},
		{step(doIssue, 3, 9, 9, 0), api.ErrNone},
		{step(doIssue, 2, 3, 0, 40), api.ErrArg},
		{step(doIssue, 2, -1, 0, 40), api.ErrArg},
		{step(doIssue, 2, 0, progCount, 40), api.ErrArg},
		{step(doIssue, 2, 0, -1, 40), api.ErrArg},
		{step(doIssue, 2, 0, 0, 0), api.ErrArg},
		{step(doIssue, 2, 0, 0, math.MinInt), api.ErrArg},
		{step(doIssue, 2, 2, progSpawn, math.MaxInt), api.OK},
	} {
		if x.want != api.OK {
			expectNothing(t, m, 3, x.s, x.want)
			continue
		}
		n := m.Flights()
		do(t, m, x.s)
		l := onWay(t, m)
		if len(l) != n+1 || l[n].To != x.s.B || l[n].Program != x.s.C || l[n].From != 2 {
			t.Errorf("%d: %+v", k, l)
		}
		if l := m.Events(); l[len(l)-2].Value != min(x.s.D, tick) {
			t.Errorf("%d: %+v", k, l)
		}
	}
	for range mostRoots - 2 {
		do(t, m, step(doIssue, 2, 0, 0, 40))
	}
	expectNothing(t, m, 3, step(doIssue, 2, 0, 0, 40), api.ErrFull)
	do(t, m, step(doIssue, 1, 0, 0, 40))
}

func TestCancelIsOfARootAtAPlace(t *testing.T) {
	// At the node 1 there are two roots, and attempts of calls that stand ahead of them, between them, and behind them.
	begin := func() *mesh.Mesh {
		m := made(t, config())
		do(t, m, step(doIssue, 0, 1, progWork, 90), step(doIssue, 2, 1, progWork, 90), step(doIssue, 1, 2, progWork, 90), step(doIssue, 1, 1, progWork, 90))
		do(t, m, step(doDeliver), step(doDeliver), step(doDeliver, 1), step(doIssue, 1, 0, progHead, 90), step(doTick, 3))
		return m
	}
	roots := []api.Key{root(1, 1), root(1, 3), root(1, 5)}
	expectKeys(t, "Keys(1)", begin().Keys(1), first(0, 2), roots[0], roots[1], first(1, 4), roots[2], first(2, 2))
	for place, r := range roots {
		m := begin()
		before := m.Events()
		do(t, m, step(doCancel, 1, place, 7, 7))
		expectEvents(t, m, append(before,
			api.Event{Kind: dropped, Real: 3, Node: 1, Local: 3, Key: r, Root: r.Id},
			api.Event{Kind: ended, Real: 3, Node: 1, Local: 3, Key: r, Root: r.Id, Code: cancelled},
		)...)
		l := onWay(t, m)
		want := api.Packet{Kind: kindCancel, From: 1, To: []int{2, 1, 0}[place], Key: first(1, 2*place+2)}
		if last := l[len(l)-1]; last != want {
			t.Errorf("%+v, not %+v", last, want)
		}
		if slices.Contains(m.Keys(1), r) || len(m.Keys(1)) != 5 {
			t.Errorf("%+v", m.Keys(1))
		}
		expectError(t, m, step(doCancel, 1, 2), api.ErrNone)
		do(t, m, step(doCancel, 1, 1), step(doCancel, 1, 0))
		expectNothing(t, m, 3, step(doCancel, 1, 0), api.ErrNone)
	}
	for _, place := range others(3) {
		expectNothing(t, begin(), 3, step(doCancel, 1, place), api.ErrNone)
	}
	for _, node := range others(3) {
		expectNothing(t, begin(), 3, step(doCancel, node, 0), api.ErrNone)
	}
	// Of a node at which attempts run alone there is none.
	m := begin()
	do(t, m, step(doDeliver))
	if len(m.Running(2)) != 1 {
		t.Error(m.Running(2))
	}
	do(t, m, step(doCancel, 2, 0))
	expectNothing(t, m, 3, step(doCancel, 2, 0), api.ErrNone)
}

func TestRunIsOfAnAttemptAtAPlace(t *testing.T) {
	begin := func() *mesh.Mesh {
		m := made(t, config())
		do(t, m, step(doIssue, 1, 0, progWork, 90), step(doIssue, 0, 1, progWork, 90), step(doIssue, 2, 1, progWork, 90), step(doIssue, 1, 1, progWork, 90))
		do(t, m, step(doDeliver, 1), step(doDeliver, 1), step(doDeliver, 1), step(doTick, 3))
		return m
	}
	running := []api.Key{first(0, 2), first(1, 4), first(2, 2)}
	expectKeys(t, "Running(1)", begin().Running(1), running...)
	for place, k := range running {
		m := begin()
		do(t, m, step(doRun, 1, place, 7, 7))
		l := m.Events()
		if last := l[len(l)-1]; last.Kind != worked || last.Key != k || last.Node != 1 || last.Real != 3 {
			t.Errorf("%+v, not of %+v", last, k)
		}
	}
	for _, place := range others(3) {
		expectNothing(t, begin(), 3, step(doRun, 1, place), api.ErrNone)
	}
	for _, node := range others(3) {
		expectNothing(t, begin(), 3, step(doRun, node, 0), api.ErrNone)
	}
	expectNothing(t, begin(), 3, step(doRun, 2, 0), api.ErrNone)
}

func TestTimerRenewsAndEnds(t *testing.T) {
	m := made(t, config())
	do(t, m, step(doIssue, 0, 1, progSpawn, 15), step(doDeliver), step(doRun, 1), step(doTick, 14))
	do(t, m, step(doTimer, 0))
	expectWay(t, m,
		api.Packet{Kind: kindCall, From: 1, To: 2, Key: first(1, 1), Hop: 2, Timeout: "15u", Until: 50, Root: name(0, 1), Parent: first(0, 2)},
		api.Packet{Kind: kindKeep, To: 1, Key: first(0, 2), Until: 64},
	)
	before := m.Events()
	do(t, m, step(doTick, 1), step(doShift, 0, -3), step(doTimer, 0), step(doDrop, 2), step(doTimer, 1))
	// The clock of the node 0 stands at 14, as it was there.
	expectEvents(t, m, append(before, api.Event{Kind: stopped, Real: 15, Node: 1, Local: 15, Key: first(0, 2), Parent: root(0, 1), Root: name(0, 1), Hop: 1, Code: 4})...)
	do(t, m, step(doTick, 3), step(doTimer, 0))
	if l := m.Events(); l[len(l)-1] != (api.Event{Kind: ended, Real: 18, Local: 15, Key: root(0, 1), Root: name(0, 1), Code: 4}) {
		t.Errorf("%+v", l[len(l)-1])
	}
	for _, node := range others(3) {
		expectNothing(t, m, 3, step(doTimer, node), api.ErrNone)
	}
	// Of a node that has nothing nothing comes.
	expectNothing(t, m, 3, step(doTimer, 2), api.OK)
}

func TestCrash(t *testing.T) {
	m := made(t, config())
	do(t, m, step(doIssue, 0, 1, progWork, 90), step(doIssue, 1, 2, progWork, 90), step(doDeliver), step(doTick, 2))
	before, way := m.Events(), onWay(t, m)
	do(t, m, step(doCrash, 1, 7, 7, 7))
	expectEvents(t, m, append(before, api.Event{Kind: crashed, Real: 2, Node: 1, Local: 2})...)
	// What is on its way is so for all that.
	expectWay(t, m, way...)
	if len(m.Keys(1)) != 0 || len(m.Keys(0)) != 1 {
		t.Errorf("%+v", look(m, 3))
	}
	do(t, m, step(doIssue, 1, 2, 0, 90))
	expectKeys(t, "Keys(1)", m.Keys(1), api.Key{Id: api.Id{Node: 1, Inc: 1, Seq: 1}})
	for _, node := range others(3) {
		expectNothing(t, m, 3, step(doCrash, node), api.ErrNone)
	}
}

// three is a mesh with three Calls on their way, to the nodes 1, 2 and 0.
func three(t *testing.T) *mesh.Mesh {
	m := made(t, config())
	do(t, m, step(doIssue, 0, 1, progWork, 90), step(doIssue, 1, 2, progWork, 90), step(doIssue, 2, 0, progWork, 90), step(doTick, 4))
	return m
}

func TestDeliverIsOfAFlight(t *testing.T) {
	for k := range 3 {
		m := three(t)
		way := onWay(t, m)
		do(t, m, step(doDeliver, k, 7, 7, 7))
		expectWay(t, m, slices.Delete(slices.Clone(way), k, k+1)...)
		to := (k + 1) % 3
		expectKeys(t, "Running", m.Running(to), first(k, 2))
		if l := m.Events(); l[len(l)-1] != (api.Event{Kind: started, Real: 4, Node: to, Local: 4, Key: first(k, 2), Parent: root(k, 1), Root: name(k, 1), Hop: 1}) {
			t.Errorf("%+v", l[len(l)-1])
		}
	}
	for _, k := range others(3) {
		expectNothing(t, three(t), 3, step(doDeliver, k), api.ErrNone)
	}
}

func TestAHurtFlightIsGone(t *testing.T) {
	for at := range len(packet.Code(onWay(t, three(t))[1])) {
		for _, by := range []int{1, 2, 128, 255} {
			m, other := three(t), three(t)
			do(t, m, step(doHurt, 1, at, by))
			expectError(t, m, step(doDeliver, 1), api.ErrSum)
			do(t, other, step(doDrop, 1))
			if !same(look(m, 3), look(other, 3)) {
				t.Errorf("hurt at %d by %d: %+v, not %+v", at, by, look(m, 3), look(other, 3))
			}
		}
	}
}

func TestHurt(t *testing.T) {
	m := three(t)
	was, _ := m.Look(2)
	for k, x := range []struct {
		s    mesh.Step
		want api.Errno
	}{
		{step(doHurt, 3, 0, 1), api.ErrNone},
		{step(doHurt, -1, 0, 1), api.ErrNone},
		{step(doHurt, 3, -1, 0), api.ErrNone},
		{step(doHurt, 2, -1, 1), api.ErrArg},
		{step(doHurt, 2, len(was), 1), api.ErrArg},
		{step(doHurt, 2, math.MaxInt, 1), api.ErrArg},
		{step(doHurt, 2, 0, 0), api.ErrArg},
		{step(doHurt, 2, 0, 256), api.ErrArg},
		{step(doHurt, 2, 0, -1), api.ErrArg},
		{step(doHurt, 2, 5, 9, 99), api.OK},
		{step(doHurt, 2, 5, 9), api.ErrTwice},
		{step(doHurt, 2, -1, 9), api.ErrTwice},
		{step(doHurt, 1, 5, 9), api.OK},
	} {
		if x.want != api.OK {
			expectNothing(t, m, 3, x.s, x.want)
			continue
		}
		s, _ := m.Look(x.s.A)
		spoilt := []byte(s)
		spoilt[5] ^= 9
		do(t, m, x.s)
		if got, e := m.Look(x.s.A); got != string(spoilt) || e != api.OK || m.Flights() != 3 {
			t.Errorf("%d: %q, %d, not %q", k, got, e, spoilt)
		}
	}
}

func TestDropAndTwice(t *testing.T) {
	for k := range 3 {
		m := three(t)
		way, before := onWay(t, m), look(m, 3)
		do(t, m, step(doTwice, k, 7, 7, 7))
		expectWay(t, m, append(slices.Clone(way), way[k])...)
		do(t, m, step(doDrop, k, 7, 7, 7))
		expectWay(t, m, append(slices.Delete(slices.Clone(way), k, k+1), way[k])...)
		do(t, m, step(doDrop), step(doDrop), step(doDrop))
		expectWay(t, m)
		after := look(m, 3)
		before.flights, before.way = 0, nil
		if !same(before, after) {
			t.Errorf("%+v, not %+v", after, before)
		}
	}
	for _, k := range others(3) {
		expectNothing(t, three(t), 3, step(doDrop, k), api.ErrNone)
		expectNothing(t, three(t), 3, step(doTwice, k), api.ErrNone)
	}
	// What is there twice is spoilt in one place alone; a spoilt one is spoilt there, too.
	m := three(t)
	do(t, m, step(doTwice, 0), step(doHurt, 3, 0, 1), step(doTwice, 3))
	expectError(t, m, step(doHurt, 4, 1, 1), api.ErrTwice)
	expectError(t, m, step(doDeliver, 4), api.ErrSum)
	expectError(t, m, step(doDeliver, 3), api.ErrSum)
	do(t, m, step(doDeliver, 0))
	expectKeys(t, "Running(1)", m.Running(1), first(0, 2))
}

func TestThereIsRoomForSoManyFlights(t *testing.T) {
	m := three(t)
	way := onWay(t, m)
	for range mostFlight - 4 {
		do(t, m, step(doTwice, 1))
	}
	// For the first of two Keeps there is room, but not for the second one.
	do(t, m, step(doIssue, 1, 0, progWork, 90))
	do(t, m, step(doDrop, 1))
	if m.Flights() != 255 || m.Lost() != 0 {
		t.Fatal(m.Flights(), m.Lost())
	}
	before := m.Events()
	do(t, m, step(doTimer, 1))
	if m.Flights() != 256 || m.Lost() != 1 {
		t.Error(m.Flights(), m.Lost())
	}
	expectEvents(t, m, before...)
	last, _ := m.Look(255)
	if want := packet.Code(api.Packet{Kind: kindKeep, From: 1, To: 2, Key: first(1, 2), Until: 54}); last != want {
		t.Errorf("%q, not %q", last, want)
	}
	expectError(t, m, step(doTwice, 0), api.ErrFull)
	expectError(t, m, step(doTwice, 256), api.ErrNone)
	if m.Flights() != 256 || m.Lost() != 2 {
		t.Error(m.Flights(), m.Lost())
	}
	// Whose Call is lost there, waits for it all the same.
	do(t, m, step(doIssue, 0, 2, progWork, 90))
	l := m.Events()
	if m.Flights() != 256 || m.Lost() != 3 || len(l) != len(before)+2 || l[len(l)-1].Kind != sent {
		t.Errorf("%d, %d, %+v", m.Flights(), m.Lost(), l)
	}
	if o, has := m.Owner(0, root(0, 3)); !has || len(o.Calls) != 1 || o.Calls[0].State != call.Waiting {
		t.Errorf("%+v, %v", o, has)
	}
	// Of those that were there none is another one.
	if got := onWay(t, m); got[0] != way[0] || got[1] != way[2] || got[2] != way[1] || got[253] != way[1] {
		t.Errorf("%+v", got)
	}
	// What is taken makes room.
	do(t, m, step(doDrop, 255), step(doTwice, 0))
	if m.Flights() != 256 || m.Lost() != 3 {
		t.Error(m.Flights(), m.Lost())
	}
}

func TestPacketsGoInOrderBehindAll(t *testing.T) {
	m := made(t, config())
	do(t, m, step(doIssue, 0, 1, progWork, 90), step(doIssue, 0, 2, progWork, 90), step(doIssue, 0, 0, progWork, 90))
	way := onWay(t, m)
	do(t, m, step(doTick, 3), step(doTimer, 0))
	for to := range 3 {
		way = append(way, api.Packet{Kind: kindKeep, To: (to + 1) % 3, Key: first(0, 2*to+2), Until: 53})
	}
	expectWay(t, m, way...)
}

func TestLook(t *testing.T) {
	m := three(t)
	for k := range 3 {
		r := root(k, 1)
		want := packet.Code(api.Packet{
			Kind: kindCall, From: k, To: (k + 1) % 3, Key: first(k, 2), Hop: 1, Timeout: "90u", Until: 50, Root: r.Id, Parent: r,
		})
		if s, e := m.Look(k); s != want || e != api.OK {
			t.Errorf("Look(%d) = %q, %d, not %q", k, s, e, want)
		}
	}
	for _, k := range others(3) {
		if s, e := m.Look(k); s != "" || e != api.ErrNone {
			t.Errorf("Look(%d) = %q, %d", k, s, e)
		}
	}
}

func TestWhatThereIsAtNoNode(t *testing.T) {
	m := three(t)
	for _, i := range others(3) {
		if m.Keys(i) != nil || m.Running(i) != nil {
			t.Errorf("at the node %d: %+v, %+v", i, m.Keys(i), m.Running(i))
		}
		for node := range 3 {
			if o, has := m.Owner(i, root(node, 1)); has || !owner.Same(o, owner.Owner{}) {
				t.Errorf("Owner(%d) = %+v, %v", i, o, has)
			}
		}
	}
	// The owner of one node is none of another one.
	for i := range 3 {
		for node := range 3 {
			o, has := m.Owner(i, root(node, 1))
			if has != (i == node) || has && o.Key != root(node, 1) || !has && !owner.Same(o, owner.Owner{}) {
				t.Errorf("Owner(%d, %d) = %+v, %v", i, node, o, has)
			}
		}
	}
}

func TestUnderGoesFromNodeToNode(t *testing.T) {
	m := made(t, config())
	// The root stands at the node 2, its attempts at the nodes 1, 2 and 0; their keys would stand in another order.
	do(t, m, step(doIssue, 2, 1, progSpawn, 90), step(doDeliver), step(doRun, 1), step(doDeliver))
	do(t, m, step(doIssue, 1, 0, progSpawn, 90), step(doDeliver), step(doRun, 0), step(doDeliver))
	do(t, m, step(doIssue, 2, 2, progWork, 90), step(doDeliver))
	expectKeys(t, "Under", m.Under(name(2, 1)), first(2, 2), first(1, 1), root(2, 1))
	expectKeys(t, "Under", m.Under(name(1, 2)), first(1, 3), root(1, 2), first(0, 1))
	expectKeys(t, "Under", m.Under(name(2, 3)), root(2, 3), first(2, 4))
	for _, d := range []api.Id{{}, name(2, 2), name(0, 1), name(3, 1), {Node: 2, Inc: 1, Seq: 1}, name(-1, math.MaxInt)} {
		expectKeys(t, "Under", m.Under(d))
	}
}

func TestAnswersAreTheAskers(t *testing.T) {
	m := three(t)
	do(t, m, step(doDeliver))
	want := look(m, 3)
	for range 2 {
		l := look(m, 3)
		clear(l.events)
		l.events = append(l.events[:0], api.Event{Kind: 99})
		for _, keys := range append(l.keys, l.running...) {
			clear(keys)
			_ = append(keys[:0], api.Key{Att: 99})
		}
		for _, o := range l.owners {
			clear(o.Calls)
		}
		clear(m.Under(name(0, 1)))
		if !same(look(m, 3), want) {
			t.Fatalf("%+v, not %+v", look(m, 3), want)
		}
	}
	expectKeys(t, "Under", m.Under(name(0, 1)), root(0, 1), first(0, 2))
	// What an asker lays behind an answer, or what happens later, the other one does not see.
	events := m.Events()
	kept := slices.Clone(events)
	events = append(events, api.Event{Kind: 98})
	do(t, m, step(doCrash, 0))
	if l := m.Events(); len(l) != len(kept)+1 || l[len(kept)].Kind != crashed || events[len(kept)].Kind != 98 || !slices.Equal(events[:len(kept)], kept) {
		t.Errorf("%+v, %+v", l, events)
	}
}

func TestMeshesAreApart(t *testing.T) {
	c := config()
	a, b := made(t, c), made(t, c)
	do(t, a, step(doTick, 7), step(doShift, 1, 3), step(doIssue, 0, 1, 0, 90), step(doDeliver))
	if !same(look(b, 3), look(made(t, c), 3)) {
		t.Errorf("%+v", look(b, 3))
	}
	expectLocal(t, b, 1, 0)
}

// TestExample is that of the chapter: five steps, the program being one of two units.
func TestExample(t *testing.T) {
	c := config()
	c.Programs[0] = []api.Op{{Kind: api.Work, A: 1}, {Kind: api.Answer, A: 7}}
	m := made(t, c)
	do(t, m, step(doIssue, 0, 1, 0, 90), step(doDeliver), step(doRun, 1), step(doRun, 1), step(doDeliver))
	l := m.Events()
	if last := l[len(l)-1]; last.Kind != ended || last.Code != ok || last.Value != 7 || m.Flights() != 0 || len(m.Under(name(0, 1))) != 0 {
		t.Errorf("%+v", l)
	}
}
