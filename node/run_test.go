package node_test

import (
	"maps"
	"math/rand"
	"slices"
	"testing"

	"hourglass/admit"
	"hourglass/api"
	"hourglass/call"
	"hourglass/node"
	"hourglass/owner"
	"hourglass/packet"
)

// life is an attempt in an incarnation of a node.
type life struct {
	node, inc int
	k         api.Key
}

// audit is what must hold of all that happened, as 27.8 says it, and how often it was to be seen.
type audit struct {
	c       api.Config
	begun   map[life]int
	sends   map[api.Key]int
	tries   map[api.Id]int
	taken   map[api.Id]int
	issued  map[api.Key]api.Event
	dropped map[api.Key]int
	ended   map[api.Key]int
	seen    map[int]int
}

func auditOf(c api.Config, seen map[int]int) *audit {
	return &audit{
		c: c, begun: map[life]int{}, sends: map[api.Key]int{}, tries: map[api.Id]int{}, taken: map[api.Id]int{},
		issued: map[api.Key]api.Event{}, dropped: map[api.Key]int{}, ended: map[api.Key]int{}, seen: seen,
	}
}

// handled looks at what an attempt does: o is the owner that does it, as it was then.
func (a *audit) handled(t *testing.T, e api.Event, inc int, o owner.Owner) {
	t.Helper()
	if e.Local >= o.Deadline || e.Local >= o.Until {
		t.Errorf("%+v, behind the end of %+v", e, o)
	}
	if e.Hop < 1 || e.Hop > a.c.Hops {
		t.Errorf("%+v: that hop may not be", e)
	}
	if e.Kind == started {
		k := life{e.Node, inc, e.Key}
		a.begun[k]++
		if a.begun[k] > 1 {
			t.Errorf("%+v: begun twice in the incarnation %d", e, inc)
		}
	}
}

// called looks at what becomes of a call.
func (a *audit) called(t *testing.T, e api.Event) {
	t.Helper()
	switch e.Kind {
	case sent:
		a.sends[e.Key]++
		a.tries[e.Key.Id]++
		if a.sends[e.Key] > 1 || a.tries[e.Key.Id] != e.Key.Att || e.Key.Att > a.c.Attempts || a.taken[e.Key.Id] > 0 {
			t.Errorf("%+v: sent %d times, the call %d times, taken %d times", e, a.sends[e.Key], a.tries[e.Key.Id], a.taken[e.Key.Id])
		}
	case committed:
		a.taken[e.Key.Id]++
	}
}

// rooted looks at what becomes of a root.
func (a *audit) rooted(t *testing.T, e api.Event) {
	t.Helper()
	switch e.Kind {
	case issued:
		a.issued[e.Key] = e
	case dropped:
		a.dropped[e.Key]++
	case ended:
		a.ended[e.Key]++
		begun := a.issued[e.Key]
		early := e.Code == deadline && e.Local < time(begun.Local+begun.Value)
		unasked := (e.Code == cancelled) != (a.dropped[e.Key] == 1)
		if a.ended[e.Key] > 1 || begun.Kind != issued || early || unasked {
			t.Errorf("%+v: issued as %+v, ended %d times, dropped %d times", e, begun, a.ended[e.Key], a.dropped[e.Key])
		}
	}
}

// look looks at all that a deed of a node tells; the owners are those ahead of it, and behind it.
func (a *audit) look(t *testing.T, x node.Out, inc int, before, after map[api.Key]owner.Owner) {
	t.Helper()
	for _, e := range x.Events {
		a.seen[e.Kind]++
		switch e.Kind {
		case started:
			a.handled(t, e, inc, after[e.Key])
		case worked:
			a.handled(t, e, inc, before[e.Key])
		case sent, committed:
			a.called(t, e)
		case issued, dropped, ended:
			a.rooted(t, e)
		}
	}
	for _, p := range x.Packets {
		if !packet.Right(p) {
			t.Errorf("%+v may not be", p)
		}
		if p.Kind == kindCall {
			// What it calls ends no later than who calls it, as that is now, or was, if it has ended.
			o, has := after[p.Parent]
			if has && (admit.Deadline(p) > o.Deadline || p.Until > o.Until) {
				t.Errorf("%+v goes further than %+v", p, o)
			}
		}
	}
}

// expectStop tells whether an attempt that is told to stop stops at once, and tells all whom it waits for.
func expectStop(t *testing.T, b both, o owner.Owner, x node.Out) {
	t.Helper()
	var told []api.Packet
	for _, y := range o.Calls {
		if y.State == waiting {
			told = append(told, api.Packet{Kind: kindCancel, From: b.m.me, To: y.To, Key: call.Key(y)})
		}
	}
	if _, has := b.n.Owner(o.Key); has || !slices.Equal(x.Packets, told) || len(x.Events) != 1 || x.Events[0].Kind != stopped {
		t.Errorf("%+v, told to stop: %+v", o, x)
	}
}

// whose is the node of which something is told.
func whose(x node.Out) int {
	if len(x.Events) > 0 {
		return x.Events[0].Node
	}
	return x.Packets[0].From
}

func TestWhatHappensAtNodesMayBe(t *testing.T) {
	seen, stops := map[int]int{}, 0
	for seed := range 600 {
		p := newPlay(t, rand.New(rand.NewSource(int64(278000+seed))))
		a := auditOf(p.c, seen)
		for range 500 {
			before := make([]map[api.Key]owner.Owner, len(p.nodes))
			for k, b := range p.nodes {
				before[k] = maps.Clone(b.m.owners)
			}
			var x node.Out
			if p.r.Intn(40) == 0 {
				// Whoever runs may be told to stop.
				b := p.nodes[p.r.Intn(len(p.nodes))]
				if running := b.m.running(); len(running) > 0 {
					o := b.m.owners[running[p.r.Intn(len(running))]]
					stops++
					x = p.receive(t, b, api.Packet{Kind: kindCancel, From: o.From, To: b.m.me, Key: o.Key})
					expectStop(t, b, o, x)
				}
			} else {
				x = p.step(t, false)
			}
			if len(x.Events)+len(x.Packets) == 0 {
				continue
			}
			me := whose(x)
			a.look(t, x, p.nodes[me].m.inc, before[me], p.nodes[me].m.owners)
			p.way = append(p.way, x.Packets...)
			p.way = p.way[max(0, len(p.way)-80):]
		}
	}
	for kind := issued; kind <= committed; kind++ {
		if seen[kind] < 100 {
			t.Errorf("of the kind %d there were %d alone", kind, seen[kind])
		}
	}
	if stops < 100 {
		t.Errorf("%d were told to stop alone", stops)
	}
}

// crew is some nodes between which nothing is lost.
type crew struct {
	nodes  []*node.Node
	way    []api.Packet
	events []api.Event
}

// tree is a configuration of three nodes, at which the program 0 begins seven attempts, and comes to 1110.
func tree() api.Config {
	c := config()
	c.Nodes, c.Hops, c.Lease, c.Wait = 3, 3, 40, 30
	c.Programs = [][]api.Op{
		{{Kind: api.Spawn, A: 1, B: 1}, {Kind: api.Work, A: 2}, {Kind: api.Spawn, A: 2, B: 1}, {Kind: api.Join}, {Kind: api.Head}, {Kind: api.Answer, A: 1000}},
		{{Kind: api.Work, A: 3}, {Kind: api.Spawn, A: 0, B: 2}, {Kind: api.Spawn, A: 2, B: 3}, {Kind: api.Join}, {Kind: api.Answer, A: 50}},
		{{Kind: api.Work, A: 4}, {Kind: api.Answer, A: 5}},
		{{Kind: api.Work, A: 1}, {Kind: api.Join}},
	}
	return c
}

func newCrew(t *testing.T, c api.Config) *crew {
	w := &crew{}
	for me := range c.Nodes {
		w.nodes = append(w.nodes, made(t, c, me))
	}
	return w
}

func (w *crew) take(x node.Out) {
	w.way = append(w.way, x.Packets...)
	w.events = append(w.events, x.Events...)
}

// deliver hands over all that is on its way, and what is sent for that, too.
func (w *crew) deliver(now int) {
	for len(w.way) > 0 {
		p := w.way[0]
		w.way = w.way[1:]
		x, _ := w.nodes[p.To].Receive(now, p)
		w.take(x)
	}
}

// round lets all nodes go on by a unit.
func (w *crew) round(now int) {
	for _, n := range w.nodes {
		w.take(n.Timer(now))
	}
	w.deliver(now)
	for _, n := range w.nodes {
		for _, k := range n.Running() {
			if at := slices.Index(n.Running(), k); at >= 0 {
				x, _ := n.Run(now, at)
				w.take(x)
			}
		}
	}
}

// under is how many owners there are under a root, at all nodes.
func (w *crew) under(root api.Id) int {
	count := 0
	for _, n := range w.nodes {
		count += len(n.Under(root))
	}
	return count
}

func (w *crew) issue(t *testing.T, timeout int) api.Id {
	t.Helper()
	root, x, e := w.nodes[0].Issue(0, 0, 0, timeout)
	if e != api.OK {
		t.Fatal(e)
	}
	w.take(x)
	return root
}

func TestARootEndsWellWhenAllIsCalm(t *testing.T) {
	w := newCrew(t, tree())
	root := w.issue(t, 500)
	for now := range 60 {
		w.round(now)
	}
	if w.under(root) != 0 || len(w.events) == 0 {
		t.Fatal(w.under(root), len(w.events))
	}
	// Of both calls below the root's: 50, 5, and nothing of the program without an answer.
	for _, e := range w.events {
		if e.Kind == stopped || e.Kind == pushed || e.Kind == ended && (e.Code != ok || e.Value != 1110) {
			t.Errorf("%+v", e)
		}
	}
	count := len(slices.DeleteFunc(slices.Clone(w.events), func(e api.Event) bool { return e.Kind != started }))
	if last := w.events[len(w.events)-1]; last.Kind != ended || count != 7 {
		t.Errorf("%+v, behind %d attempts", last, count)
	}
}

func TestACancelStopsAllBelow(t *testing.T) {
	for end := range 16 {
		w := newCrew(t, tree())
		root := w.issue(t, 500)
		for now := range end {
			w.round(now)
		}
		if w.under(root) == 0 {
			continue
		}
		x, e := w.nodes[0].Cancel(end, root)
		if e != api.OK {
			t.Error(e)
		}
		w.take(x)
		w.deliver(end)
		if w.under(root) != 0 {
			t.Errorf("cancelled at %d: %d are left", end, w.under(root))
		}
	}
}

func TestOrphansAreReaped(t *testing.T) {
	for grain := 0; grain <= 6; grain += 2 {
		c := tree()
		c.Grain = grain
		w := newCrew(t, c)
		root := w.issue(t, 500)
		for now := range 7 {
			w.round(now)
		}
		if w.under(root) < 4 {
			t.Fatal(w.under(root))
		}
		w.take(w.nodes[0].Crash(7))
		// Those that are left renew nothing by themselves, whatever they tell each other.
		for now := 7; now <= 6+c.Lease; now++ {
			for _, n := range w.nodes {
				w.take(n.Timer(now))
			}
			w.deliver(now)
		}
		last := 6 + c.Lease + 1<<grain
		for _, n := range w.nodes {
			w.take(n.Timer(last))
		}
		if w.under(root) != 0 {
			t.Errorf("with the grain %d %d are left", 1<<grain, w.under(root))
		}
	}
}

func TestNodesDoTheSameAgain(t *testing.T) {
	a, b := newCrew(t, tree()), newCrew(t, tree())
	for _, w := range []*crew{a, b} {
		w.issue(t, 90)
		w.issue(t, 30)
		for now := range 40 {
			w.round(now)
		}
	}
	if !slices.Equal(a.events, b.events) || len(a.events) < 20 {
		t.Errorf("%+v\n%+v", a.events, b.events)
	}
}
