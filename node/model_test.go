package node_test

import (
	"maps"
	"math/rand"
	"slices"
	"testing"

	"hourglass/admit"
	"hourglass/api"
	"hourglass/call"
	"hourglass/ident"
	"hourglass/node"
	"hourglass/owner"
	"hourglass/packet"
	"hourglass/sender"
	"hourglass/ticks"
)

// model is the chapter's rule, which keeps nothing but owners and what was seen, and seeks all it has each time.
type model struct {
	c           api.Config
	me, now     int
	inc, tokens int
	given       int
	owners      map[api.Key]owner.Owner
	seen        map[api.Key]int
	out         node.Out
}

func modelOf(c api.Config, me int) *model {
	m := &model{c: c, me: me}
	m.clear()
	return m
}

func (m *model) clear() {
	m.tokens, m.given, m.owners, m.seen = 1000*m.c.Tokens, 0, map[api.Key]owner.Owner{}, map[api.Key]int{}
}

// begin goes on to a time, as a deed does that tells no error.
func (m *model) begin(now int) {
	m.now, m.out = max(m.now, time(now)), node.Out{}
}

// time is the nearest one that may be.
func time(n int) int { return max(0, min(n, tick)) }

func (m *model) keys(holds func(o owner.Owner) bool) []api.Key {
	var l []api.Key
	for k, o := range m.owners {
		if holds(o) {
			l = append(l, k)
		}
	}
	slices.SortFunc(l, ident.Keys)
	return l
}

func (m *model) all() []api.Key { return m.keys(func(owner.Owner) bool { return true }) }

func (m *model) running() []api.Key {
	return m.keys(func(o owner.Owner) bool { return o.Key.Att != 0 })
}

func (m *model) send(l ...api.Packet) { m.out.Packets = append(m.out.Packets, l...) }

func (m *model) tell(kind int, o owner.Owner, code, value int) {
	m.out.Events = append(m.out.Events, api.Event{
		Kind: kind, Node: m.me, Local: m.now, Key: o.Key, Parent: o.Parent, Root: o.Root, Hop: o.Hop, Code: code, Value: value,
	})
}

func (m *model) tellCall(kind int, o owner.Owner, x call.Call, value int) {
	m.out.Events = append(m.out.Events, api.Event{
		Kind: kind, Node: m.me, Local: m.now, Key: api.Key{Id: x.Id, Att: x.Att}, Parent: o.Key, Root: o.Root, Hop: o.Hop + 1, Value: value,
	})
}

func (m *model) keep(o owner.Owner) {
	m.owners[o.Key] = o
	if code, value, settled := sender.Settled(o, m.now); settled {
		delete(m.owners, o.Key)
		m.tell(ended, o, code, value)
	}
}

func (m *model) stop(o owner.Owner, code int) {
	delete(m.owners, o.Key)
	m.send(sender.Cancels(m.me, o)...)
	if o.Key.Att == 0 {
		m.tell(ended, o, code, 0)
	} else {
		m.tell(stopped, o, code, 0)
	}
}

func (m *model) sends(o owner.Owner, x call.Call) {
	y, p := sender.Send(m.c, m.me, o, x, m.now)
	if p.Kind != 0 {
		m.send(p)
		m.tellCall(sent, o, y, 0)
	}
	m.keep(owner.With(o, y))
}

func (m *model) asks(o owner.Owner, to, prog int) {
	m.given++
	m.sends(o, call.Call{Id: api.Id{Node: m.me, Inc: m.inc, Seq: m.given}, To: to, Program: prog})
}

func (m *model) fails(o owner.Owner, x call.Call, code, push int) {
	y, left := sender.Failed(m.c, m.me, o, x, m.now, m.tokens, code, push)
	m.tokens = left
	m.keep(owner.With(o, y))
}

func (m *model) issue(now, to, prog, timeout int) (api.Id, api.Errno) {
	if to < 0 || to >= m.c.Nodes || prog < 0 || prog >= len(m.c.Programs) || timeout < 1 {
		return api.Id{}, api.ErrArg
	}
	if len(m.all())-len(m.running()) >= mostRoots || m.given+2 > mostSeq {
		return api.Id{}, api.ErrFull
	}
	m.begin(now)
	m.given++
	root := api.Id{Node: m.me, Inc: m.inc, Seq: m.given}
	o := owner.Owner{
		Key: api.Key{Id: root}, Root: root, From: m.me, Program: prog,
		Deadline: time(m.now + time(timeout)), Until: time(m.now + m.c.Lease),
	}
	m.tell(issued, o, ok, time(timeout))
	m.asks(o, to, prog)
	return root, api.OK
}

func (m *model) cancel(now int, root api.Id) api.Errno {
	o, has := m.owners[api.Key{Id: root}]
	if !has {
		return api.ErrNone
	}
	m.begin(now)
	m.tell(dropped, o, ok, 0)
	m.stop(o, cancelled)
	return api.OK
}

func (m *model) called(p api.Packet) {
	o := owner.Owner{
		Key: p.Key, Root: p.Root, Parent: p.Parent, From: p.From, Hop: p.Hop, Until: p.Until, Program: p.Program, Deadline: admit.Deadline(p),
	}
	_, here := m.owners[p.Key]
	_, was := m.seen[p.Key]
	room := admit.Room{Now: m.now, Running: len(m.running()), Programs: len(m.c.Programs), Seen: here || was}
	what, n := admit.Check(m.c, p, room)
	if what == 1 && n != cancelled {
		m.send(api.Packet{Kind: kindReply, From: m.me, To: p.From, Key: p.Key, Code: n})
	}
	if what == 2 {
		m.send(api.Packet{Kind: kindPush, From: m.me, To: p.From, Key: p.Key, Delay: n})
	}
	if what != 0 {
		return
	}
	maps.DeleteFunc(m.seen, func(_ api.Key, until int) bool { return until <= m.now })
	if len(m.seen) >= mostSeen {
		m.send(api.Packet{Kind: kindPush, From: m.me, To: p.From, Key: p.Key, Delay: m.c.Base})
		return
	}
	m.seen[p.Key] = min(o.Deadline, o.Until)
	m.tell(started, o, ok, 0)
	m.owners[o.Key] = o
}

// caller seeks in all calls of all owners.
func (m *model) caller(d api.Id) (owner.Owner, call.Call, bool) {
	for _, o := range m.owners {
		for _, x := range o.Calls {
			if x.Id == d {
				return o, x, true
			}
		}
	}
	return owner.Owner{}, call.Call{}, false
}

func (m *model) receive(now int, p api.Packet) api.Errno {
	if !packet.Right(p) || p.To != m.me {
		return api.ErrArg
	}
	m.begin(now)
	o, x, has := m.caller(p.Key.Id)
	counts := has && x.State == waiting && x.Att == p.Key.Att
	host, hosts := m.owners[p.Key]
	switch {
	case p.Kind == kindCall:
		m.called(p)
	case p.Kind == kindPush && counts:
		m.tellCall(pushed, o, x, p.Delay)
		m.fails(o, x, unavailable, p.Delay)
	case p.Kind == kindReply && counts && p.More:
		m.tellCall(committed, o, x, 0)
		x.Committed = true
		m.owners[o.Key] = owner.With(o, x)
	case p.Kind == kindReply && counts && p.Code == ok:
		m.tokens = min(m.tokens+100, 1000*m.c.Tokens)
		m.keep(owner.With(o, call.Good(x, p.Value)))
	case p.Kind == kindReply && counts:
		m.fails(o, x, p.Code, -2)
	case p.Kind == kindCancel && hosts:
		m.stop(host, cancelled)
	case p.Kind == kindKeep && hosts:
		host.Until = max(host.Until, p.Until)
		m.owners[host.Key] = host
	}
	return api.OK
}

// due is something that is to be done: of whom, for which key, and what.
type due struct {
	of, k api.Key
	kind  int
}

func (m *model) due() []due {
	grain := 1 << m.c.Grain
	var l []due
	for k, o := range m.owners {
		if ticks.Past(m.now, owner.Ends(o), grain) {
			l = append(l, due{k, k, 1})
		}
		for _, x := range o.Calls {
			if call.Lost(x, m.now, m.c.Wait, grain) {
				l = append(l, due{k, call.Key(x), 2})
			}
			if call.Rested(x, m.now, grain) {
				l = append(l, due{k, call.Key(x), 3})
			}
		}
	}
	slices.SortFunc(l, func(a, b due) int {
		if by := ident.Keys(a.k, b.k); by != 0 {
			return by
		}
		return a.kind - b.kind
	})
	return l
}

func (m *model) timer(now int) {
	m.begin(now)
	for _, d := range m.due() {
		o, has := m.owners[d.of]
		if !has {
			continue
		}
		if d.kind == 1 {
			code, _ := owner.Over(o, m.now)
			m.stop(o, code)
			continue
		}
		_, x, _ := m.caller(d.k.Id)
		if d.kind == 2 {
			m.send(api.Packet{Kind: kindCancel, From: m.me, To: x.To, Key: d.k})
			m.fails(o, x, unavailable, -2)
		} else {
			m.sends(o, x)
		}
	}
	for _, k := range m.all() {
		o := m.owners[k]
		if k.Att == 0 {
			o.Until = time(m.now + m.c.Lease)
			m.owners[k] = o
		}
		m.send(sender.Keeps(m.me, o)...)
	}
}

func (m *model) run(now, k int) api.Errno {
	l := m.running()
	if k < 0 || k >= len(l) {
		return api.ErrNone
	}
	m.begin(now)
	o := m.owners[l[k]]
	if code, is := owner.Over(o, m.now); is {
		m.stop(o, code)
		return api.OK
	}
	next, act := owner.Step(o, m.c.Programs[o.Program])
	if act.Kind == owner.Spawns && (len(o.Calls) >= m.c.Fan || m.given >= mostSeq) {
		act = owner.Act{Kind: owner.Fails, A: exhausted}
	}
	code, value, answer := act.A, 0, sender.Reply(m.me, o, act.A, 0)
	switch act.Kind {
	case owner.Waits:
		return api.OK
	case owner.Answers:
		code, value, answer = ok, act.A, sender.Reply(m.me, o, ok, act.A)
	case owner.Refuses:
		code, answer = unavailable, sender.Refuse(m.me, o, act.A)
	case owner.Works, owner.Heads, owner.Spawns:
		m.tell(worked, o, ok, 0)
		m.owners[next.Key] = next
		if act.Kind == owner.Heads {
			m.send(sender.More(m.me, o))
		}
		if act.Kind == owner.Spawns {
			m.asks(next, act.A, act.B)
		}
		return api.OK
	}
	delete(m.owners, o.Key)
	m.send(answer)
	m.send(sender.Cancels(m.me, o)...)
	m.tell(replied, o, code, value)
	return api.OK
}

func (m *model) crash(now int) {
	m.begin(now)
	m.out.Events = []api.Event{{Kind: crashed, Node: m.me, Local: m.now}}
	m.inc = min(m.inc+1, mostInc)
	m.clear()
}

// both is a node, and its model, of which the same is asked.
type both struct {
	n *node.Node
	m *model
}

// same tells whether a node is as its model is.
func (b both) same(t *testing.T, what string, x node.Out, e, want api.Errno) node.Out {
	t.Helper()
	expected := b.m.out
	if want != api.OK {
		expected = node.Out{}
	}
	if e != want || !slices.Equal(x.Packets, expected.Packets) || !slices.Equal(x.Events, expected.Events) {
		t.Fatalf("%s at the node %d, at %d: %d,\n%+v, not %d,\n%+v", what, b.m.me, b.m.now, e, x, want, expected)
	}
	if b.n.Inc() != b.m.inc || b.n.Tokens() != b.m.tokens || !slices.Equal(b.n.Keys(), b.m.all()) || !slices.Equal(b.n.Running(), b.m.running()) {
		t.Fatalf("%s: %d, %d, %+v, not %d, %d, %+v", what, b.n.Inc(), b.n.Tokens(), b.n.Keys(), b.m.inc, b.m.tokens, b.m.all())
	}
	for k, o := range b.m.owners {
		if got, has := b.n.Owner(k); !has || !owner.Same(got, o) {
			t.Fatalf("%s: Owner(%+v) = %+v, %v, not %+v", what, k, got, has, o)
		}
		under := b.m.keys(func(a owner.Owner) bool { return a.Root == o.Root })
		if got := b.n.Under(o.Root); !slices.Equal(got, under) {
			t.Fatalf("%s: Under(%+v) = %+v, not %+v", what, o.Root, got, under)
		}
	}
	return x
}

// play is some nodes, and what is on its way between them.
type play struct {
	r     *rand.Rand
	c     api.Config
	nodes []both
	way   []api.Packet
	now   int
}

// randomOp is a step of a program at random that may be.
func randomOp(r *rand.Rand, nodes, programs int) api.Op {
	switch r.Intn(9) {
	case 0:
		return api.Op{Kind: api.Work, A: 1 + r.Intn(3)}
	case 1, 2, 3:
		return api.Op{Kind: api.Spawn, A: r.Intn(nodes), B: r.Intn(programs)}
	case 4, 5:
		return api.Op{Kind: api.Join}
	case 6:
		return api.Op{Kind: api.Head}
	case 7:
		if r.Intn(4) == 0 {
			return api.Op{Kind: api.Fail, A: 1 + r.Intn(16)}
		}
		if r.Intn(3) == 0 {
			return api.Op{Kind: api.Refuse, A: r.Intn(20) - 1}
		}
	}
	return api.Op{Kind: api.Answer, A: r.Intn(100)}
}

func newPlay(t *testing.T, r *rand.Rand) *play {
	base := 1 + r.Intn(10)
	c := api.Config{
		Nodes: 1 + r.Intn(3), Skew: r.Intn(9), Lease: 5 + r.Intn(100), Grain: max(0, r.Intn(9)-3), Least: 1 + r.Intn(5), Hops: 1 + r.Intn(4),
		Cap: 1 + r.Intn(5), Fan: 1 + r.Intn(3), Attempts: 1 + r.Intn(5), Base: base, Most: base + r.Intn(10), Wait: 3 + r.Intn(40),
		Tokens: 1 + r.Intn(20), Programs: make([][]api.Op, 2+r.Intn(5)),
	}
	for k := range c.Programs {
		for range r.Intn(7) {
			c.Programs[k] = append(c.Programs[k], randomOp(r, c.Nodes, len(c.Programs)))
		}
	}
	p := &play{r: r, c: c}
	if r.Intn(8) == 0 {
		p.now = tick - 300
	}
	for me := range c.Nodes {
		p.nodes = append(p.nodes, both{made(t, c, me), modelOf(c, me)})
	}
	return p
}

// clock is about what the time is.
func (p *play) clock() int { return p.now + p.r.Intn(5) - 2 }

// known is a key that there is at a node, or that is on its way there.
func (p *play) known(b both) api.Key {
	var l []api.Key
	for k, o := range b.m.owners {
		l = append(l, k)
		for _, x := range o.Calls {
			l = append(l, call.Key(x))
		}
	}
	for k := range b.m.seen {
		l = append(l, k)
	}
	if len(l) == 0 {
		return api.Key{Id: api.Id{Node: b.m.me, Seq: 1}, Att: 1}
	}
	slices.SortFunc(l, ident.Keys)
	return l[p.r.Intn(len(l))]
}

// stray is a packet that nobody sent, and that may mean something to a node; some may not be.
func (p *play) stray(b both) api.Packet {
	r := p.r
	x := api.Packet{Kind: 1 + r.Intn(5), From: r.Intn(4), To: b.m.me, Key: p.known(b)}
	if r.Intn(3) > 0 {
		x.Key.Att = min(5, x.Key.Att+r.Intn(2))
	}
	switch x.Kind {
	case kindCall:
		x.Hop, x.Stamp, x.Timeout, x.Until = 1+r.Intn(5), time(p.clock()), []string{"9u", "30u", "200u", "1m", "0u"}[r.Intn(5)], time(p.clock()+r.Intn(60))
		x.Program, x.Root, x.Parent = r.Intn(7), api.Id{Node: 1, Seq: 1 + r.Intn(9)}, api.Key{Id: api.Id{Seq: 1 + r.Intn(9)}, Att: r.Intn(3)}
	case kindReply:
		x.More = r.Intn(3) == 0
		if !x.More {
			x.Code, x.Value = r.Intn(17)*r.Intn(2), r.Intn(50)
		}
	case kindKeep:
		x.Until = time(p.clock() + r.Intn(100))
	case kindPush:
		x.Delay = r.Intn(30) - 1
	}
	if r.Intn(20) == 0 {
		x.To++
	}
	return x
}

// deliver hands a packet of those on their way to its node; it may be lost, or be left on its way besides.
func (p *play) deliver(t *testing.T) node.Out {
	if len(p.way) == 0 {
		return node.Out{}
	}
	k := p.r.Intn(min(len(p.way), 4))
	x := p.way[k]
	if p.r.Intn(6) > 0 {
		p.way = slices.Delete(p.way, k, k+1)
	}
	if p.r.Intn(12) == 0 {
		return node.Out{}
	}
	return p.receive(t, p.nodes[x.To], x)
}

func (p *play) receive(t *testing.T, b both, x api.Packet) node.Out {
	now := p.clock()
	want := b.m.receive(now, x)
	out, e := b.n.Receive(now, x)
	return b.same(t, "Receive", out, e, want)
}

func (p *play) issue(t *testing.T, b both) node.Out {
	r, now := p.r, p.clock()
	to, prog, timeout := r.Intn(p.c.Nodes+1)-r.Intn(2), r.Intn(len(p.c.Programs)), r.Intn(200)
	root, want := b.m.issue(now, to, prog, timeout)
	got, out, e := b.n.Issue(now, to, prog, timeout)
	if got != root {
		t.Fatalf("Issue tells %+v, not %+v", got, root)
	}
	return b.same(t, "Issue", out, e, want)
}

func (p *play) step(t *testing.T, strays bool) node.Out {
	r := p.r
	b, now := p.nodes[r.Intn(len(p.nodes))], p.clock()
	switch what := r.Intn(100); {
	case what < 6:
		return p.issue(t, b)
	case what < 8:
		root := p.known(b).Id
		want := b.m.cancel(now, root)
		out, e := b.n.Cancel(now, root)
		return b.same(t, "Cancel", out, e, want)
	case what < 45:
		k := r.Intn(p.c.Cap+1) - r.Intn(2)
		want := b.m.run(now, k)
		out, e := b.n.Run(now, k)
		return b.same(t, "Run", out, e, want)
	case what < 55:
		b.m.timer(now)
		return b.same(t, "Timer", b.n.Timer(now), api.OK, api.OK)
	case what == 55 && r.Intn(3) == 0:
		b.m.crash(now)
		return b.same(t, "Crash", b.n.Crash(now), api.OK, api.OK)
	case what < 60 && strays:
		return p.receive(t, b, p.stray(b))
	case what < 70:
		p.now += 1 + r.Intn(9)
	}
	return p.deliver(t)
}

func TestNodesAgainstTheRuleAtRandom(t *testing.T) {
	kinds := map[int]int{}
	codes := map[int]int{}
	for seed := range 600 {
		p := newPlay(t, rand.New(rand.NewSource(int64(271000+seed))))
		for range 400 {
			x := p.step(t, true)
			for _, e := range x.Events {
				kinds[e.Kind]++
				if e.Kind == ended {
					codes[e.Code]++
				}
			}
			// Of packets that go nowhere none is on its way.
			for _, x := range x.Packets {
				if x.To < len(p.nodes) {
					p.way = append(p.way, x)
				}
			}
			p.way = p.way[max(0, len(p.way)-60):]
		}
	}
	for kind := issued; kind <= committed; kind++ {
		if kinds[kind] < 100 {
			t.Errorf("of the kind %d there were %d alone", kind, kinds[kind])
		}
	}
	for _, code := range []int{ok, cancelled, deadline, exhausted, internal, unavailable} {
		if codes[code] < 10 {
			t.Errorf("with the code %d there ended %d alone", code, codes[code])
		}
	}
}
