package mesh_test

import (
	"math/rand"
	"slices"
	"testing"

	"hourglass/api"
	"hourglass/mesh"
	"hourglass/owner"
	"hourglass/packet"
)

// watch is a mesh of which all that happens is looked at, as 28.4, and what goes through all layers, say it.
type watch struct {
	c      api.Config
	m      *mesh.Mesh
	hurt   []bool                    // of each flight
	owners []map[api.Key]owner.Owner // of each node
	above  map[api.Key]api.Key       // whom an attempt is called by
	left   map[api.Key]int           // when who is there no more was there last, by real time
	issued map[api.Id]api.Event      // the root's
	local  []int                     // what each node's clock said last
	events int                       // how many were looked at
	counts map[string]int            // how often something was to be seen
}

func newWatch(t *testing.T, c api.Config, counts map[string]int) *watch {
	t.Helper()
	w := &watch{
		c: c, m: made(t, c), above: map[api.Key]api.Key{}, left: map[api.Key]int{}, issued: map[api.Id]api.Event{}, local: make([]int, c.Nodes), counts: counts,
	}
	w.owners = w.all()
	return w
}

// all are the owners of each node.
func (w *watch) all() []map[api.Key]owner.Owner {
	l := make([]map[api.Key]owner.Owner, w.c.Nodes)
	for i := range l {
		l[i] = map[api.Key]owner.Owner{}
		for _, k := range w.m.Keys(i) {
			l[i][k], _ = w.m.Owner(i, k)
		}
	}
	return l
}

// concerned is the node that a step may change; -1, if it is none.
func (w *watch) concerned(s mesh.Step) int {
	switch s.Kind {
	case doTimer, doRun, doIssue, doCancel, doCrash:
		return s.A
	case doDeliver:
		told, _ := w.m.Look(s.A)
		if p, e := packet.Parse(told); e == api.OK {
			return p.To
		}
	}
	return -1
}

// flown keeps in mind which flights are hurt.
func (w *watch) flown(s mesh.Step, e api.Errno) {
	there := s.A >= 0 && s.A < len(w.hurt)
	switch {
	case s.Kind == doHurt && e == api.OK:
		w.hurt[s.A] = true
	case s.Kind == doTwice && e == api.OK:
		w.hurt = append(w.hurt, w.hurt[s.A])
	case (s.Kind == doDeliver || s.Kind == doDrop) && there:
		w.hurt = slices.Delete(w.hurt, s.A, s.A+1)
	}
	for len(w.hurt) < w.m.Flights() {
		w.hurt = append(w.hurt, false)
	}
}

// mayBe asks that what is on its way may be, unless it was hurt.
func (w *watch) mayBe(t *testing.T) {
	t.Helper()
	if len(w.hurt) != w.m.Flights() {
		t.Fatalf("%d flights, not %d", w.m.Flights(), len(w.hurt))
	}
	for k, hurt := range w.hurt {
		told, _ := w.m.Look(k)
		p, e := packet.Parse(told)
		if hurt && e != api.ErrSum || !hurt && (e != api.OK || !packet.Right(p)) {
			t.Fatalf("%q is on its way, hurt: %v; error %d, %+v", told, hurt, e, p)
		}
		if hurt {
			w.counts["hurt"]++
		}
	}
}

// on asks that times go on, and that clocks are near real time.
func (w *watch) on(t *testing.T, e api.Event) {
	t.Helper()
	if e.Real != w.m.Real() || e.Local < w.local[e.Node] || max(e.Local-e.Real, e.Real-e.Local) > w.c.Skew {
		t.Fatalf("%+v, with the skew %d, at %d, behind %d", e, w.c.Skew, w.m.Real(), w.local[e.Node])
	}
	w.local[e.Node] = e.Local
	if e.Local != e.Real {
		w.counts["skewed"]++
	}
}

// gone tells whether somebody of a key is at no node, and since when.
func (w *watch) gone(k api.Key) (int, bool) {
	for _, l := range w.owners {
		if _, has := l[k]; has {
			return 0, false
		}
	}
	return w.left[k], true
}

// abandoned tells for how long one above an attempt has been gone; that of whom it is longest.
func (w *watch) abandoned(k api.Key) int {
	longest := -1
	for k.Att != 0 {
		k = w.above[k]
		if at, is := w.gone(k); is {
			longest = max(longest, w.m.Real()-at)
		}
	}
	return longest
}

// handled looks at what is begun, or worked at: T1, and T6.
func (w *watch) handled(t *testing.T, e api.Event) {
	t.Helper()
	begun := w.issued[e.Root]
	if begun.Kind != issued || e.Real >= begun.Real+begun.Value+2*w.c.Skew {
		t.Fatalf("%+v, the root being issued as %+v, with the skew %d", e, begun, w.c.Skew)
	}
	if e.Kind == started {
		w.above[e.Key] = e.Parent
	}
	w.counts["handled"]++
	long := w.abandoned(e.Key)
	if long >= w.c.Lease+2*w.c.Skew {
		t.Fatalf("%+v, orphaned for %d, with the lease %d and the skew %d", e, long, w.c.Lease, w.c.Skew)
	}
	if long > 0 {
		w.counts["handled by orphans"]++
	}
}

// shrunk asks that nobody's deadline, and lease, is behind that of the one who called: T2.
func (w *watch) shrunk(t *testing.T) {
	t.Helper()
	for _, l := range w.owners {
		for k, o := range l {
			above, has := w.owners[o.From][o.Parent]
			if k.Att == 0 || !has {
				continue
			}
			if o.Deadline > above.Deadline || o.Until > above.Until {
				t.Fatalf("%+v goes further than %+v", o, above)
			}
			w.counts["called"]++
		}
	}
}

// apart asks that no owner of another node than one is another one than it was.
func (w *watch) apart(t *testing.T, s mesh.Step, node int, now []map[api.Key]owner.Owner) {
	t.Helper()
	for i, l := range now {
		if i == node {
			continue
		}
		if len(l) != len(w.owners[i]) {
			t.Fatalf("%+v: at the node %d there are %d owners, not %d", s, i, len(l), len(w.owners[i]))
		}
		for k, o := range l {
			if was, has := w.owners[i][k]; !has || !owner.Same(was, o) {
				t.Fatalf("%+v: at the node %d: %+v, not %+v", s, i, o, was)
			}
		}
	}
}

// do does a step, and looks at all that came of it.
func (w *watch) do(t *testing.T, s mesh.Step) api.Errno {
	t.Helper()
	real, node := w.m.Real(), w.concerned(s)
	e := w.m.Do(s)
	if w.m.Real() < real || w.m.Real() > real && s.Kind != doTick {
		t.Fatalf("%+v: from %d to %d", s, real, w.m.Real())
	}
	w.flown(s, e)
	w.mayBe(t)
	l := w.m.Events()
	for _, x := range l[w.events:] {
		w.on(t, x)
		switch x.Kind {
		case issued:
			w.issued[x.Root] = x
		case started, worked:
			w.handled(t, x)
		}
	}
	w.events = len(l)
	now := w.all()
	w.apart(t, s, node, now)
	for _, was := range w.owners {
		for k := range was {
			w.left[k] = w.m.Real()
		}
	}
	w.owners = now
	w.shrunk(t)
	return e
}

// orphans asks, when each timer was asked, that no orphan is there that was one for long: T7.
func (w *watch) orphans(t *testing.T) {
	t.Helper()
	for i := range w.c.Nodes {
		w.do(t, step(doTimer, i))
	}
	for i, l := range w.owners {
		for k := range l {
			long := w.abandoned(k)
			if long >= w.c.Lease+2*w.c.Skew+1<<w.c.Grain {
				t.Fatalf("at the node %d %+v has been an orphan for %d: %+v", i, k, long, w.c)
			}
			if long > 0 {
				w.counts["orphans"]++
			}
		}
	}
}

func TestWhatGoesThroughAllLayersAtRandom(t *testing.T) {
	counts := map[string]int{}
	for seed := range 300 {
		r := rand.New(rand.NewSource(int64(284000 + seed)))
		c := randomConfig(r)
		if r.Intn(2) == 0 {
			c.Lease = 5 + r.Intn(20)
		}
		w := newWatch(t, c, counts)
		some := usual
		if r.Intn(2) == 0 {
			// Who hears that somebody is gone is no orphan for long.
			some = weights{doTick: 10, doShift: 4, doTimer: 3, doRun: 40, doDeliver: 20, doDrop: 8, doTwice: 3, doHurt: 2, doIssue: 6, doCancel: 4, doCrash: 2}
		}
		for range 10 {
			for range 30 {
				w.do(t, likely(r, c, w.m.Flights(), some))
			}
			w.orphans(t)
		}
	}
	for what, least := range map[string]int{"hurt": 100, "skewed": 1000, "handled": 1000, "handled by orphans": 100, "called": 1000, "orphans": 100} {
		if counts[what] < least {
			t.Errorf("%s: %d alone", what, counts[what])
		}
	}
}

// TestOrphansAreReapedAndBeginNothing: nobody hears of a crash, and who is below it goes on up to its lease.
func TestOrphansAreReapedAndBeginNothing(t *testing.T) {
	for skew := 0; skew <= 6; skew += 3 {
		for grain := range 5 {
			c := config()
			c.Skew, c.Grain, c.Lease = skew, grain, 30
			c.Programs[0] = []api.Op{{Kind: api.Work, A: 900}}
			m := made(t, c)
			// The clock of the root's node is as far ahead, and that of the other one as far behind, as may be.
			do(t, m, step(doTick, 20), step(doShift, 0, 99), step(doShift, 1, -99), step(doIssue, 0, 1, 0, 500), step(doDeliver), step(doTick, 5))
			do(t, m, step(doTimer, 0), step(doDeliver), step(doCrash, 0))
			last, reaped := 0, 0
			for at := 25; at < 100; at++ {
				if m.Do(step(doRun, 1)) == api.OK && len(m.Running(1)) > 0 {
					last = at
				}
				do(t, m, step(doTick, 1))
			}
			if want := 25 + c.Lease + 2*skew - 1; last != want {
				t.Errorf("with the skew %d it works up to %d, not %d", skew, last, want)
			}
			m = made(t, c)
			do(t, m, step(doTick, 20), step(doShift, 0, 99), step(doShift, 1, -99), step(doIssue, 0, 1, 0, 500), step(doDeliver), step(doTick, 5))
			do(t, m, step(doTimer, 0), step(doDeliver), step(doCrash, 0))
			for at := 25; at < 150 && reaped == 0; at++ {
				do(t, m, step(doTimer, 1))
				if len(m.Keys(1)) == 0 {
					reaped = at
				}
				do(t, m, step(doTick, 1))
			}
			if early := 25 + c.Lease + 2*skew; reaped < early || reaped > early+1<<grain {
				t.Errorf("with the skew %d and the grain %d it is there up to %d, not %d", skew, 1<<grain, reaped, early)
			}
		}
	}
}

// mostAttempts are the powers of Fan times Attempts, up to Hops, together.
func mostAttempts(c api.Config) int {
	most, power := 0, 1
	for range c.Hops {
		power *= c.Fan * c.Attempts
		most += power
	}
	return most
}

// attempts tells how many attempts of each root happened so.
func attempts(m *mesh.Mesh, kind int) map[api.Id]int {
	count := map[api.Id]int{}
	for _, e := range m.Events() {
		if e.Kind == kind {
			count[e.Root]++
		}
	}
	return count
}

// TestAttemptsAreBounded is T3: without crashes there are so many attempts at the most.
func TestAttemptsAreBounded(t *testing.T) {
	many := 0
	for seed := range 150 {
		r := rand.New(rand.NewSource(int64(285000 + seed)))
		c := randomConfig(r)
		c.Fan, c.Attempts, c.Hops, c.Cap, c.Tokens, c.Wait = 1+r.Intn(2), 1+r.Intn(2), 1+r.Intn(2), 64, 1000, 5
		m, most := made(t, c), mostAttempts(c)
		w := usual.without(doCrash)
		for range 300 {
			m.Do(likely(r, c, m.Flights(), w))
		}
		begun := attempts(m, started)
		for d, n := range attempts(m, sent) {
			if n > most || begun[d] > n {
				t.Errorf("under %+v %d are sent, and %d begun, not %d at the most: %+v", d, n, begun[d], most, c)
			}
			if n > 1 {
				many++
			}
		}
	}
	if many < 100 {
		t.Error(many)
	}
}

// TestAsManyAttemptsAsMayBe: the last one of a chain fails, so that each one above it is tried again as often as may be.
func TestAsManyAttemptsAsMayBe(t *testing.T) {
	for tries := 1; tries <= 3; tries++ {
		for hops := 1; hops <= 3; hops++ {
			c := config()
			c.Attempts, c.Hops, c.Fan, c.Cap, c.Tokens, c.Wait, c.Base, c.Lease = tries, hops, 1, 64, 1000, 900, 1, 90
			c.Programs = nil
			for k := range hops - 1 {
				c.Programs = append(c.Programs, []api.Op{{Kind: api.Spawn, A: k % 3, B: k + 1}, {Kind: api.Join}})
			}
			c.Programs = append(c.Programs, []api.Op{{Kind: api.Fail, A: 14}})
			m := made(t, c)
			do(t, m, step(doIssue, 0, 2, 0, 5000))
			for n := 0; n < 900 && len(m.Keys(0)) > 0; n++ {
				round(t, m, 3)
			}
			want := mostAttempts(c)
			if sends, begun := attempts(m, sent)[name(0, 1)], attempts(m, started)[name(0, 1)]; sends != want || begun != want {
				t.Errorf("%d attempts, %d hops: %d are sent, and %d begun, not %d", tries, hops, sends, begun, want)
			}
		}
	}
}

// TestCancelsStopAllBelow is T4: nothing is lost, and what is sent first arrives first.
func TestCancelsStopAllBelow(t *testing.T) {
	stops := 0
	for seed := range 1000 {
		r := rand.New(rand.NewSource(int64(286000 + seed)))
		c := randomConfig(r)
		c.Hops, c.Cap = 2+r.Intn(4), 4+r.Intn(60)
		m := made(t, c)
		w := usual.without(doCrash, doDrop, doHurt, doCancel)
		w[doTick], w[doRun], w[doDeliver] = 4, 50, 70
		for range 40 + r.Intn(60) {
			s := likely(r, c, m.Flights(), w)
			if s.Kind == doDeliver {
				s.A = 0
			}
			m.Do(s)
		}
		node := r.Intn(c.Nodes)
		roots := slices.DeleteFunc(m.Keys(node), func(k api.Key) bool { return k.Att != 0 })
		if len(roots) == 0 || m.Lost() > 0 {
			continue
		}
		place := r.Intn(len(roots))
		d, real := roots[place].Id, m.Real()
		if len(m.Under(d)) > 2 {
			stops++
		}
		do(t, m, step(doCancel, node, place))
		deliverAll(t, m)
		if len(m.Under(d)) != 0 || m.Real() != real || m.Lost() > 0 {
			t.Errorf("%d: %+v are left under %+v", seed, m.Under(d), d)
		}
	}
	if stops < 50 {
		t.Error(stops)
	}
}

// TestHurtIsLost is T5: in one mesh packets are hurt, in the other one those are lost when they would arrive.
func TestHurtIsLost(t *testing.T) {
	gone := 0
	for seed := range 150 {
		r := rand.New(rand.NewSource(int64(287000 + seed)))
		c := randomConfig(r)
		w, other := newWatch(t, c, map[string]int{}), made(t, c)
		some := usual.without()
		some[doHurt] = 9
		for range 200 {
			s := likely(r, c, w.m.Flights(), some)
			instead := s
			if s.Kind == doDeliver && s.A < len(w.hurt) && w.hurt[s.A] {
				instead.Kind = doDrop
				gone++
			}
			w.do(t, s)
			if s.Kind != doHurt {
				other.Do(instead)
			}
			a, b := look(w.m, c.Nodes), look(other, c.Nodes)
			a.way, b.way = nil, nil
			if !same(a, b) {
				t.Fatalf("%+v: %+v, not %+v", s, a, b)
			}
		}
	}
	if gone < 500 {
		t.Error(gone)
	}
}

// calmPrograms are programs that answer, behind all that they wait for; each calls those behind it alone.
func calmPrograms(r *rand.Rand, c api.Config, count int) [][]api.Op {
	l := make([][]api.Op, count)
	for k := range l {
		for range r.Intn(min(c.Fan+1, count-k)) {
			l[k] = append(l[k], api.Op{Kind: api.Spawn, A: r.Intn(c.Nodes), B: k + 1 + r.Intn(count-1-k)})
			if r.Intn(3) == 0 {
				l[k] = append(l[k], api.Op{Kind: api.Work, A: 1 + r.Intn(5)})
			}
			if r.Intn(3) == 0 {
				l[k] = append(l[k], api.Op{Kind: api.Head})
			}
		}
		l[k] = append(l[k], api.Op{Kind: api.Join})
		if r.Intn(5) > 0 {
			l[k] = append(l[k], api.Op{Kind: api.Answer, A: r.Intn(1 << 31)})
		}
	}
	return l
}

// comesTo tells what a program comes to, and how many calls are made for that.
func comesTo(c api.Config, k int) (int, int) {
	value, calls := 0, 1
	for _, o := range c.Programs[k] {
		switch o.Kind {
		case api.Spawn:
			v, n := comesTo(c, o.B)
			value, calls = (value+v)%(1<<31), calls+n
		case api.Answer:
			value = (value + o.A) % (1 << 31)
		}
	}
	return value, calls
}

// deliverAll hands over all that is on its way, and what is sent for that, too, in order.
func deliverAll(t *testing.T, m *mesh.Mesh) {
	t.Helper()
	for n := 0; m.Flights() > 0; n++ {
		if n > 5000 {
			t.Fatal("there is no end to what is delivered")
		}
		do(t, m, step(doDeliver, 0))
	}
}

// round lets all go on by a unit, and all arrive that is sent.
func round(t *testing.T, m *mesh.Mesh, nodes int) {
	t.Helper()
	for i := range nodes {
		do(t, m, step(doTimer, i))
	}
	deliverAll(t, m)
	for i := range nodes {
		for _, k := range m.Running(i) {
			do(t, m, step(doRun, i, slices.Index(m.Running(i), k)))
		}
	}
	do(t, m, step(doTick, 1))
}

// TestWhenAllIsCalm is T8: a root with time enough ends with OK, and with what its program comes to.
func TestWhenAllIsCalm(t *testing.T) {
	plain, deep := 0, 0
	for seed := range 300 {
		r := rand.New(rand.NewSource(int64(288000 + seed)))
		c := randomConfig(r)
		c.Cap, c.Hops, c.Lease, c.Wait = 64, 6, 60, 900
		c.Programs = calmPrograms(r, c, 1+r.Intn(10))
		want, calls := comesTo(c, 0)
		if calls > 40 {
			continue
		}
		m := made(t, c)
		do(t, m, step(doTick, 30))
		for i := range c.Nodes {
			do(t, m, step(doShift, i, r.Intn(2*c.Skew+1)-c.Skew))
		}
		do(t, m, step(doIssue, 0, r.Intn(c.Nodes), 0, 1000))
		for n := 0; n < 400 && len(m.Keys(0)) > 0; n++ {
			round(t, m, c.Nodes)
		}
		l := m.Events()
		last := l[len(l)-1]
		if last.Kind != ended || last.Code != ok || last.Value != want || m.Lost() != 0 {
			t.Errorf("%d: %+v, not %d: %+v", seed, last, want, c)
		}
		begun := 0
		for _, e := range l {
			if e.Kind == started {
				begun++
			}
		}
		if begun != calls {
			t.Errorf("%d: %d attempts, not %d", seed, begun, calls)
		}
		if calls > 4 {
			deep++
		} else {
			plain++
		}
	}
	if plain < 50 || deep < 50 {
		t.Error(plain, deep)
	}
}

func TestTheSameStepsDoTheSame(t *testing.T) {
	r := rand.New(rand.NewSource(289000))
	c := randomConfig(r)
	c.Nodes = 4
	a, b := made(t, c), made(t, c)
	for range 600 {
		s := likely(r, c, a.Flights(), usual)
		if e, want := a.Do(s), b.Do(s); e != want {
			t.Fatalf("%+v: error %d, not %d", s, e, want)
		}
		// Whoever looks changes nothing.
		look(a, 4)
		a.Under(name(0, 1))
	}
	if !same(look(a, 4), look(b, 4)) || len(a.Events()) < 50 {
		t.Errorf("%+v, not %+v", look(a, 4), look(b, 4))
	}
}
