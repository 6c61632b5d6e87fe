package mesh_test

import (
	"math"
	"math/rand"
	"slices"
	"testing"

	"hourglass/api"
	"hourglass/mesh"
	"hourglass/node"
	"hourglass/owner"
	"hourglass/packet"
)

// parcel is a packet on its way, as it was sent, its bytes, and whether one of them was spoilt.
type parcel struct {
	p    api.Packet
	s    string
	hurt bool
}

// model is the chapter's rule, with nodes, but without clocks and a bag: packets are handed over as they were sent.
type model struct {
	c           api.Config
	real        int
	apart, said []int
	nodes       []*node.Node
	way         []parcel
	lost        int
	events      []api.Event
}

func modelOf(t *testing.T, c api.Config) *model {
	t.Helper()
	m := &model{c: c, apart: make([]int, c.Nodes), said: make([]int, c.Nodes)}
	for me := range c.Nodes {
		n, e := node.New(c, me)
		if e != api.OK {
			t.Fatal(c, e)
		}
		m.nodes = append(m.nodes, n)
	}
	return m
}

func (m *model) read(i int) int {
	m.said[i] = max(m.said[i], min(tick, m.real+m.apart[i]))
	return m.said[i]
}

func (m *model) send(x parcel) api.Errno {
	if len(m.way) == mostFlight {
		m.lost++
		return api.ErrFull
	}
	m.way = append(m.way, x)
	return api.OK
}

// told takes in what a node tells, and passes its error on.
func (m *model) told(out node.Out, e api.Errno) api.Errno {
	for _, p := range out.Packets {
		m.send(parcel{p: p, s: packet.Code(p)})
	}
	for _, x := range out.Events {
		x.Real = m.real
		m.events = append(m.events, x)
	}
	return e
}

func (m *model) deliver(k int) api.Errno {
	x := m.way[k]
	m.way = slices.Delete(m.way, k, k+1)
	if x.hurt {
		return api.ErrSum
	}
	return m.told(m.nodes[x.p.To].Receive(m.read(x.p.To), x.p))
}

func (m *model) hurt(k, at, by int) api.Errno {
	x := &m.way[k]
	if x.hurt {
		return api.ErrTwice
	}
	if at < 0 || at >= len(x.s) || by < 1 || by > 255 {
		return api.ErrArg
	}
	x.s, x.hurt = x.s[:at]+string([]byte{x.s[at] ^ byte(by)})+x.s[at+1:], true
	return api.OK
}

// flown does a step that concerns a flight.
func (m *model) flown(s mesh.Step) api.Errno {
	if s.A < 0 || s.A >= len(m.way) {
		return api.ErrNone
	}
	switch s.Kind {
	case doDeliver:
		return m.deliver(s.A)
	case doDrop:
		m.way = slices.Delete(m.way, s.A, s.A+1)
		return api.OK
	case doTwice:
		return m.send(m.way[s.A])
	}
	return m.hurt(s.A, s.B, s.C)
}

// cancelled ends a root, which is sought among all owners.
func (m *model) cancelled(n *node.Node, now, place int) api.Errno {
	for _, k := range n.Keys() {
		if k.Att != 0 {
			continue
		}
		if place == 0 {
			return m.told(n.Cancel(now, k.Id))
		}
		place--
	}
	return api.ErrNone
}

// noded does a step that concerns a node.
func (m *model) noded(s mesh.Step) api.Errno {
	if s.A < 0 || s.A >= len(m.nodes) {
		return api.ErrNone
	}
	if s.Kind == doShift {
		m.apart[s.A] = max(-m.c.Skew, min(m.c.Skew, s.B))
		return api.OK
	}
	n, now := m.nodes[s.A], m.read(s.A)
	switch s.Kind {
	case doTimer:
		return m.told(n.Timer(now), api.OK)
	case doRun:
		return m.told(n.Run(now, s.B))
	case doIssue:
		_, out, e := n.Issue(now, s.B, s.C, s.D)
		return m.told(out, e)
	case doCancel:
		return m.cancelled(n, now, s.B)
	}
	return m.told(n.Crash(now), api.OK)
}

func (m *model) do(s mesh.Step) api.Errno {
	switch {
	case s.Kind == doTick:
		if s.A > 0 {
			m.real = min(tick, m.real+min(s.A, tick))
		}
		return api.OK
	case slices.Contains([]int{doShift, doTimer, doRun, doIssue, doCancel, doCrash}, s.Kind):
		return m.noded(s)
	case slices.Contains([]int{doDeliver, doDrop, doTwice, doHurt}, s.Kind):
		return m.flown(s)
	}
	return api.ErrKind
}

// randomOp is a step of a program at random that may be.
func randomOp(r *rand.Rand, nodes, programs int) api.Op {
	switch r.Intn(9) {
	case 0:
		return api.Op{Kind: api.Work, A: 1 + r.Intn(3)}
	case 1, 2, 3:
		return api.Op{Kind: api.Spawn, A: r.Intn(nodes), B: r.Intn(programs)}
	case 4, 5:
		return api.Op{Kind: api.Join}
	case 6:
		return api.Op{Kind: api.Head}
	case 7:
		if r.Intn(4) == 0 {
			return api.Op{Kind: api.Fail, A: 1 + r.Intn(16)}
		}
		if r.Intn(3) == 0 {
			return api.Op{Kind: api.Refuse, A: r.Intn(20) - 1}
		}
	}
	return api.Op{Kind: api.Answer, A: r.Intn(100)}
}

// randomConfig is a configuration at random that may be.
func randomConfig(r *rand.Rand) api.Config {
	base := 1 + r.Intn(10)
	c := api.Config{
		Nodes: 1 + r.Intn(4), Skew: r.Intn(9), Lease: 5 + r.Intn(100), Grain: max(0, r.Intn(9)-3), Least: 1 + r.Intn(5), Hops: 1 + r.Intn(5),
		Cap: 1 + r.Intn(6), Fan: 1 + r.Intn(3), Attempts: 1 + r.Intn(5), Base: base, Most: base + r.Intn(10), Wait: 3 + r.Intn(40),
		Tokens: 1 + r.Intn(20), Programs: make([][]api.Op, 2+r.Intn(5)),
	}
	for k := range c.Programs {
		for range r.Intn(7) {
			c.Programs[k] = append(c.Programs[k], randomOp(r, c.Nodes, len(c.Programs)))
		}
	}
	return c
}

// wild is a number that may be anything.
func wild(r *rand.Rand) int {
	l := edges()
	switch r.Intn(3) {
	case 0:
		return l[r.Intn(len(l))]
	case 1:
		return r.Intn(300) - 20
	}
	return r.Int() - math.MaxInt/2
}

// weights tell of each kind of step how often it is done.
type weights map[int]int

// usual lets all be done.
var usual = weights{
	doTick: 12, doShift: 3, doTimer: 10, doRun: 36, doDeliver: 34, doDrop: 3, doTwice: 3, doHurt: 2, doIssue: 6, doCancel: 2, doCrash: 1,
}

// without are weights of all but some kinds.
func (w weights) without(kinds ...int) weights {
	rest := weights{}
	for kind := doTick; kind <= doCrash; kind++ {
		if !slices.Contains(kinds, kind) {
			rest[kind] = w[kind]
		}
	}
	return rest
}

func (w weights) kind(r *rand.Rand) int {
	sum := 0
	for kind := doTick; kind <= doCrash; kind++ {
		sum += w[kind]
	}
	left := r.Intn(sum)
	for kind := doTick; ; kind++ {
		if left -= w[kind]; left < 0 {
			return kind
		}
	}
}

// likely is a step at random that mostly may be, of a mesh that has so many flights.
func likely(r *rand.Rand, c api.Config, flights int, w weights) mesh.Step {
	node, flight := r.Intn(c.Nodes), r.Intn(max(1, min(flights, 4)))
	switch kind := w.kind(r); kind {
	case doTick:
		return step(kind, 1+r.Intn(9))
	case doShift:
		return step(kind, node, r.Intn(25)-12)
	case doRun:
		return step(kind, node, r.Intn(c.Cap)*r.Intn(2))
	case doHurt:
		return step(kind, flight, r.Intn(14), 1+r.Intn(255))
	case doDeliver, doDrop, doTwice:
		return step(kind, flight)
	case doIssue:
		return step(kind, node, r.Intn(c.Nodes), r.Intn(len(c.Programs)), 1+r.Intn(200))
	case doCancel:
		return step(kind, node, r.Intn(3))
	default:
		return step(kind, node)
	}
}

// anyStep is a step of which nothing need be so.
func anyStep(r *rand.Rand) mesh.Step {
	return step(r.Intn(14)-1, wild(r), wild(r), wild(r), wild(r))
}

// expectSame asks that a mesh is as its model is.
func expectSame(t *testing.T, m *mesh.Mesh, x *model) {
	t.Helper()
	if m.Real() != x.real || m.Flights() != len(x.way) || m.Lost() != x.lost || !slices.Equal(m.Events(), x.events) {
		t.Fatalf("%+v, not %+v", look(m, x.c.Nodes), x)
	}
	for k, want := range x.way {
		if s, e := m.Look(k); s != want.s || e != api.OK {
			t.Fatalf("Look(%d) = %q, %d, not %q", k, s, e, want.s)
		}
	}
	if _, e := m.Look(len(x.way)); e != api.ErrNone {
		t.Fatal(e)
	}
	roots := map[api.Id][]api.Key{}
	for i, n := range x.nodes {
		if !slices.Equal(m.Keys(i), n.Keys()) || !slices.Equal(m.Running(i), n.Running()) {
			t.Fatalf("the node %d: %+v and %+v, not %+v and %+v", i, m.Keys(i), m.Running(i), n.Keys(), n.Running())
		}
		for _, k := range n.Keys() {
			want, _ := n.Owner(k)
			if o, has := m.Owner(i, k); !has || !owner.Same(o, want) {
				t.Fatalf("Owner(%d, %+v) = %+v, %v, not %+v", i, k, o, has, want)
			}
			roots[want.Root] = append(roots[want.Root], k)
		}
	}
	for d, want := range roots {
		if got := m.Under(d); !slices.Equal(got, want) {
			t.Fatalf("Under(%+v) = %+v, not %+v", d, got, want)
		}
	}
}

func TestMeshesAgainstTheRuleAtRandom(t *testing.T) {
	errors, happened := map[[2]int]int{}, map[int]int{}
	for seed := range 300 {
		r := rand.New(rand.NewSource(int64(281000 + seed)))
		c := randomConfig(r)
		m, x := made(t, c), modelOf(t, c)
		if r.Intn(10) == 0 {
			m.Do(step(doTick, tick-300))
			x.do(step(doTick, tick-300))
		}
		for range 300 {
			s := likely(r, c, len(x.way), usual)
			if r.Intn(20) == 0 {
				s = anyStep(r)
			}
			e, want := m.Do(s), x.do(s)
			if e != want {
				t.Fatalf("%+v: error %d, not %d", s, e, want)
			}
			errors[[2]int{s.Kind, int(e)}]++
			expectSame(t, m, x)
		}
		for _, e := range m.Events() {
			happened[e.Kind]++
		}
	}
	for kind := issued; kind <= committed; kind++ {
		if happened[kind] < 30 {
			t.Errorf("of the kind %d there happened %d alone", kind, happened[kind])
		}
	}
	for kind, l := range [][]api.Errno{
		doTick: {api.OK}, doShift: {api.OK, api.ErrNone}, doTimer: {api.OK, api.ErrNone}, doRun: {api.OK, api.ErrNone},
		doDeliver: {api.OK, api.ErrNone, api.ErrSum}, doDrop: {api.OK, api.ErrNone}, doTwice: {api.OK, api.ErrNone},
		doHurt: {api.OK, api.ErrNone, api.ErrTwice, api.ErrArg}, doIssue: {api.OK, api.ErrNone, api.ErrArg},
		doCancel: {api.OK, api.ErrNone}, doCrash: {api.OK, api.ErrNone}, 12: {api.ErrKind},
	} {
		for _, e := range l {
			if errors[[2]int{kind, int(e)}] < 10 {
				t.Errorf("of the kind %d there was the error %d %d times alone", kind, e, errors[[2]int{kind, int(e)}])
			}
		}
	}
}

// TestCrowdedMeshesAgainstTheRule: many roots, of which each is told its lease at each Timer, so that there is no room for all that is sent.
func TestCrowdedMeshesAgainstTheRule(t *testing.T) {
	lost := 0
	for seed := range 12 {
		r := rand.New(rand.NewSource(int64(282000 + seed)))
		c := randomConfig(r)
		c.Cap, c.Tokens = 64, 1000
		m, x := made(t, c), modelOf(t, c)
		for range 300 {
			s := likely(r, c, len(x.way), weights{doTick: 1, doTimer: 4, doRun: 4, doDeliver: 20, doTwice: 1, doIssue: 30, doCrash: 0})
			if e, want := m.Do(s), x.do(s); e != want {
				t.Fatalf("%+v: error %d, not %d", s, e, want)
			}
			expectSame(t, m, x)
		}
		lost += m.Lost()
	}
	if lost < 500 {
		t.Error(lost)
	}
}
