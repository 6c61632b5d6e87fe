package table_test

import (
	"math"
	"math/rand"
	"reflect"
	"slices"
	"testing"

	"hourglass/api"
	"hourglass/call"
	"hourglass/owner"
	"hourglass/table"
)

// The errors are written out, so that a test tells when they are taken wrongly.
const (
	ok     = 0
	errNil = 1
)

// id is a name of the node 0.
func id(seq int) api.Id { return api.Id{Seq: seq} }

// key is an attempt of a name of the node 0.
func key(seq, att int) api.Key { return api.Key{Id: id(seq), Att: att} }

// under is an owner of a key, under a root, that makes calls of these names.
func under(k api.Key, root api.Id, seqs ...int) owner.Owner {
	o := owner.Owner{Key: k, Root: root}
	for _, seq := range seqs {
		o.Calls = append(o.Calls, call.Call{Id: id(seq)})
	}
	return o
}

// full is an owner of which each field is another number than 0.
func full() owner.Owner {
	return owner.Owner{
		Key: api.Key{Id: api.Id{Node: 1, Inc: 2, Seq: 3}, Att: 4}, Root: api.Id{Node: 5, Inc: 6, Seq: 7}, Parent: api.Key{Id: api.Id{Node: 8, Inc: 9, Seq: 10}, Att: 11},
		From: 12, Hop: 13, Deadline: 14, Until: 15, Program: 16, PC: 17, Done: 18,
		Calls: []call.Call{
			{Id: id(19), To: 20, Program: 21, Att: 22, State: 1, Sent: 23, Ready: 24, Committed: true, Code: 25, Value: 26, Tries: 27},
			{Id: id(28), State: 3},
		},
	}
}

// ids are ordinary names, those that differ in one part alone, and such as may not be.
func ids() []api.Id {
	return []api.Id{
		{}, {Seq: 1}, {Seq: 2}, {Seq: 10}, {Inc: 1}, {Inc: 1, Seq: 1}, {Inc: 2}, {Node: 1}, {Node: 1, Inc: 1, Seq: 1}, {Node: 2, Seq: 1}, {Node: 63, Inc: 1<<16 - 1, Seq: 1<<24 - 1},
		{Seq: -1}, {Seq: 1 << 24}, {Inc: 1 << 16}, {Node: 64}, {Node: -1, Inc: -1, Seq: -1}, {Seq: math.MinInt}, {Seq: math.MaxInt}, {Node: math.MinInt}, {Node: math.MaxInt, Inc: math.MaxInt, Seq: math.MaxInt},
	}
}

// keys are ids with attempts that may be and such as may not.
func keys() []api.Key {
	var l []api.Key
	for _, d := range ids() {
		for _, att := range []int{math.MinInt, -1, 0, 1, 2, 5, 6, math.MaxInt} {
			l = append(l, api.Key{Id: d, Att: att})
		}
	}
	return l
}

// copied is an owner with calls of its own.
func copied(o owner.Owner) owner.Owner {
	o.Calls = slices.Clone(o.Calls)
	return o
}

// equal is whether two owners are the same, told field by field.
func equal(a, b owner.Owner) bool {
	calls := slices.Equal(a.Calls, b.Calls)
	a.Calls, b.Calls = nil, nil
	return calls && reflect.DeepEqual(a, b)
}

// ahead is whether a key stands ahead of another one, told by its four parts, one behind the other.
func ahead(a, b api.Key) bool {
	return slices.Compare([]int{a.Id.Node, a.Id.Inc, a.Id.Seq, a.Att}, []int{b.Id.Node, b.Id.Inc, b.Id.Seq, b.Att}) < 0
}

// model is owners in the order of putting, which are gone through one by one.
type model []owner.Owner

func (m model) place(k api.Key) int {
	for n := range m {
		if m[n].Key == k {
			return n
		}
	}
	return -1
}

func (m *model) drop(k api.Key) bool {
	n := m.place(k)
	if n < 0 {
		return false
	}
	*m = append(append(model{}, (*m)[:n]...), (*m)[n+1:]...)
	return true
}

func (m *model) put(o owner.Owner) {
	m.drop(o.Key)
	*m = append(*m, copied(o))
}

// callers are all who have a call of a name.
func (m model) callers(d api.Id) []owner.Owner {
	var l []owner.Owner
	for _, o := range m {
		for _, c := range o.Calls {
			if c.Id == d {
				l = append(l, o)
				break
			}
		}
	}
	return l
}

// keys are those of all of whom something holds, each laid ahead of the first one that it stands ahead of.
func (m model) keys(holds func(o owner.Owner) bool) []api.Key {
	var l []api.Key
	for _, o := range m {
		if !holds(o) {
			continue
		}
		n := 0
		for n < len(l) && ahead(l[n], o.Key) {
			n++
		}
		l = slices.Insert(l, n, o.Key)
	}
	return l
}

func expectPut(t *testing.T, x *table.Table, l ...owner.Owner) {
	t.Helper()
	for _, o := range l {
		if e := x.Put(o); e != ok {
			t.Fatalf("Put(%v): %d", o, e)
		}
	}
}

func expectGet(t *testing.T, x *table.Table, l ...owner.Owner) {
	t.Helper()
	for _, o := range l {
		if got, has := x.Get(o.Key); !has || !equal(got, o) {
			t.Fatalf("Get(%v) = %v, %t, not %v", o.Key, got, has, o)
		}
	}
}

func expectNone(t *testing.T, x *table.Table, l ...api.Key) {
	t.Helper()
	for _, k := range l {
		if got, has := x.Get(k); has || !equal(got, owner.Owner{}) {
			t.Fatalf("Get(%v) = %v, %t", k, got, has)
		}
	}
}

func expectDrop(t *testing.T, x *table.Table, k api.Key, want bool) {
	t.Helper()
	if got := x.Drop(k); got != want {
		t.Fatalf("Drop(%v) = %t", k, got)
	}
}

func expectKeys(t *testing.T, what string, got []api.Key, want ...api.Key) {
	t.Helper()
	if !slices.Equal(got, want) {
		t.Fatalf("%s: %v, not %v", what, got, want)
	}
}

func expectCaller(t *testing.T, x *table.Table, d api.Id, want owner.Owner) {
	t.Helper()
	if got, has := x.Caller(d); !has || !equal(got, want) {
		t.Fatalf("Caller(%v) = %v, %t, not %v", d, got, has, want)
	}
}

func expectNoCaller(t *testing.T, x *table.Table, l ...api.Id) {
	t.Helper()
	for _, d := range l {
		if got, has := x.Caller(d); has || !equal(got, owner.Owner{}) {
			t.Fatalf("Caller(%v) = %v, %t", d, got, has)
		}
	}
}

// expectModel holds all that a table tells against the model.
func expectModel(t *testing.T, x *table.Table, m model, asked []api.Key, roots []api.Id) {
	t.Helper()
	expectGet(t, x, m...)
	for _, k := range asked {
		if m.place(k) < 0 {
			expectNone(t, x, k)
		}
	}
	expectKeys(t, "keys", x.Keys(), m.keys(func(owner.Owner) bool { return true })...)
	expectKeys(t, "running", x.Running(), m.keys(func(o owner.Owner) bool { return o.Key.Att != 0 })...)
	for _, root := range roots {
		expectKeys(t, "under", x.Under(root), m.keys(func(o owner.Owner) bool { return o.Root == root })...)
	}
}

// expectCallers holds whose the calls of the names up to one are against the model: of several owners nothing is said.
func expectCallers(t *testing.T, x *table.Table, m model, names int) {
	t.Helper()
	for seq := range names {
		switch l := m.callers(id(seq)); len(l) {
		case 0:
			expectNoCaller(t, x, id(seq))
		case 1:
			expectCaller(t, x, id(seq), l[0])
		}
	}
}

// 24.1: a new one has none, and shares nothing with another one.
func TestNew(t *testing.T) {
	x, other := table.New(), table.New()
	expectModel(t, x, nil, keys(), ids())
	expectNoCaller(t, x, ids()...)
	expectDrop(t, x, api.Key{}, false)
	expectPut(t, x, under(key(1, 1), id(9), 5))
	expectModel(t, other, nil, []api.Key{key(1, 1)}, []api.Id{id(9)})
	expectNoCaller(t, other, id(5))
	expectPut(t, other, under(key(1, 1), id(8), 6), under(key(2, 0), id(9)))
	expectModel(t, x, model{under(key(1, 1), id(9), 5)}, []api.Key{key(2, 0)}, []api.Id{id(8), id(9)})
	expectNoCaller(t, x, id(6))
}

// Nil ones, and such as New did not make, have none, and stay so.
func TestNotMade(t *testing.T) {
	var zero table.Table
	other := table.New()
	expectPut(t, other, full())
	shared := *other
	for name, x := range map[string]*table.Table{"nil": nil, "zero": &zero, "new": new(table.Table), "copied": &shared} {
		for range 3 {
			for _, k := range append(keys(), full().Key) {
				o := full()
				o.Key = k
				if e := x.Put(o); e != errNil {
					t.Fatalf("%s: Put(%v): %d", name, o, e)
				}
				expectNone(t, x, k)
				expectDrop(t, x, k, false)
			}
			expectKeys(t, name, x.Keys())
			expectKeys(t, name, x.Running())
			for _, d := range append(ids(), full().Root, id(19)) {
				expectKeys(t, name, x.Under(d))
				expectNoCaller(t, x, d)
			}
		}
	}
	// The one that was copied goes on as if nobody had.
	expectModel(t, other, model{full()}, keys(), ids())
	expectCaller(t, other, id(19), full())
}

// 24.1: an owner of whatever key is there, once it is put, and until it is dropped.
func TestPutOfEachKey(t *testing.T) {
	x := table.New()
	var m model
	for _, k := range keys() {
		o := full()
		o.Key = k
		expectNone(t, x, k)
		expectDrop(t, x, k, false)
		expectPut(t, x, o)
		m.put(o)
		expectGet(t, x, o)
	}
	expectModel(t, x, m, nil, append(ids(), full().Root))
	for n, k := range keys() {
		expectDrop(t, x, k, true)
		expectDrop(t, x, k, false)
		expectNone(t, x, k)
		expectModel(t, x, m[n+1:], nil, []api.Id{full().Root})
	}
	expectModel(t, x, nil, keys(), ids())
}

// 24.1: an owner that is put stands instead of the one of its key, of which nothing is left; none of another key is touched.
func TestPutAnew(t *testing.T) {
	x := table.New()
	old := under(key(1, 1), id(7), 1, 2)
	others := []owner.Owner{under(key(1, 0), id(7), 3), under(key(1, 2), id(7), 4), under(key(2, 1), id(7), 5)}
	expectPut(t, x, old)
	expectPut(t, x, others...)
	anew := under(key(1, 1), id(8), 2, 6)
	anew.Hop, anew.Deadline = 3, 50
	expectPut(t, x, anew)
	expectGet(t, x, anew)
	expectGet(t, x, others...)
	expectKeys(t, "keys", x.Keys(), key(1, 0), key(1, 1), key(1, 2), key(2, 1))
	expectKeys(t, "under", x.Under(id(7)), key(1, 0), key(1, 2), key(2, 1))
	expectKeys(t, "under", x.Under(id(8)), key(1, 1))
	expectNoCaller(t, x, id(1))
	expectCaller(t, x, id(2), anew)
	expectCaller(t, x, id(6), anew)
	expectDrop(t, x, key(1, 1), true)
	expectDrop(t, x, key(1, 1), false)
	expectNone(t, x, key(1, 1))
	expectGet(t, x, others...)
}

// 24.1: keys rise by the node, the incarnation, the number and the attempt; whose attempt is not 0, runs.
func TestKeys(t *testing.T) {
	rising := []api.Key{
		{Id: api.Id{Node: -1, Inc: 5, Seq: 9}, Att: 3},
		{Id: api.Id{Inc: -1, Seq: 9}, Att: 1},
		{Id: api.Id{Seq: -2}},
		{Id: id(2), Att: -1}, key(2, 0), key(2, 1), key(2, 5), key(10, 0), key(10, 1),
		{Id: api.Id{Inc: 1, Seq: 1}}, {Id: api.Id{Inc: 1, Seq: 1}, Att: 2},
		{Id: api.Id{Inc: 3}, Att: 1},
		{Id: api.Id{Node: 1}}, {Id: api.Id{Node: 1}, Att: 4},
		{Id: api.Id{Node: 9, Inc: 1, Seq: 1}, Att: 1}, {Id: api.Id{Node: 10, Seq: 1}, Att: 1},
	}
	var running []api.Key
	for _, k := range rising {
		if k.Att != 0 {
			running = append(running, k)
		}
	}
	for seed := range 50 {
		x := table.New()
		for _, n := range rand.New(rand.NewSource(int64(seed))).Perm(len(rising)) {
			expectPut(t, x, owner.Owner{Key: rising[n]})
		}
		expectKeys(t, "keys", x.Keys(), rising...)
		expectKeys(t, "running", x.Running(), running...)
		expectKeys(t, "under", x.Under(api.Id{}), rising...)
	}
}

// 24.1: under a root are those that say so, be they roots or not, and nobody whose own name it is, or his above.
func TestUnder(t *testing.T) {
	for _, root := range ids() {
		x := table.New()
		var m model
		for n, d := range ids() {
			o := under(key(n, n%3), d)
			o.Parent = api.Key{Id: root, Att: 1}
			m.put(o)
			m.put(under(api.Key{Id: root, Att: n + 1}, d, n))
		}
		expectPut(t, x, m...)
		got := x.Under(root)
		expectKeys(t, "under", got, m.keys(func(o owner.Owner) bool { return o.Root == root })...)
		if len(got) < 1 {
			t.Fatalf("nobody under %v", root)
		}
		expectModel(t, x, m, keys(), append(ids(), api.Id{Node: 7, Inc: 7, Seq: 7}))
	}
}

// 24.2: who makes a call is found by its name alone, of whatever name, in whatever place and state it is.
func TestCaller(t *testing.T) {
	x := table.New()
	var l []owner.Owner
	for n, d := range ids() {
		o := full()
		o.Key, o.Hop = key(n, n%4), n
		o.Calls = []call.Call{{Id: api.Id{Node: 5, Seq: n}}, {Id: d, State: n % 5, Code: n}, {Id: api.Id{Node: 6, Seq: n}}}
		l = append(l, o)
		expectNoCaller(t, x, d)
		expectPut(t, x, o)
	}
	// Of all other names there is no call: those of owners, of who is above, of other nodes.
	expectNoCaller(t, x, full().Root, full().Parent.Id, id(7), id(19), api.Id{Node: 5, Seq: -1}, api.Id{Node: 5, Seq: len(l)}, api.Id{Node: 5, Inc: 1, Seq: 1})
	for n, d := range ids() {
		for _, of := range []api.Id{d, {Node: 5, Seq: n}, {Node: 6, Seq: n}} {
			expectCaller(t, x, of, l[n])
		}
	}
	for n, d := range ids() {
		expectDrop(t, x, l[n].Key, true)
		expectNoCaller(t, x, d, api.Id{Node: 5, Seq: n}, api.Id{Node: 6, Seq: n})
		if n+1 < len(l) {
			expectCaller(t, x, ids()[n+1], l[n+1])
		}
	}
}

// 24.2: an owner may have several calls of one name, and each attempt has calls of its own.
func TestCallerOfTheSameName(t *testing.T) {
	x := table.New()
	twice, other := under(key(1, 1), id(7), 3, 3, 4, 3), under(key(1, 2), id(7), 5)
	expectPut(t, x, twice, other)
	expectCaller(t, x, id(3), twice)
	expectCaller(t, x, id(4), twice)
	expectCaller(t, x, id(5), other)
	once := under(key(1, 1), id(7), 3)
	expectPut(t, x, once)
	expectCaller(t, x, id(3), once)
	expectNoCaller(t, x, id(4))
	expectPut(t, x, under(key(1, 1), id(7)))
	expectNoCaller(t, x, id(3), id(4))
	expectPut(t, x, twice)
	expectDrop(t, x, key(1, 1), true)
	expectNoCaller(t, x, id(3), id(4))
	expectCaller(t, x, id(5), other)
}

// 24.2: a call that goes from one owner to another one is the other one's, whoever of them is put, or dropped, first.
func TestCallerThatChanges(t *testing.T) {
	a, b := under(key(1, 1), id(7), 3), under(key(2, 1), id(7), 3, 4)
	for _, l := range [][]owner.Owner{{a, b}, {b, a}} {
		for _, leaver := range []owner.Owner{a, b} {
			for _, drops := range []bool{false, true} {
				x := table.New()
				expectPut(t, x, l...)
				var m model
				m.put(a)
				m.put(b)
				leave := under(leaver.Key, id(7))
				if drops {
					expectDrop(t, x, leaver.Key, true)
					m.drop(leaver.Key)
				} else {
					expectPut(t, x, leave)
					m.put(leave)
				}
				expectCallers(t, x, m, 6)
				expectModel(t, x, m, nil, []api.Id{id(7)})
			}
		}
	}
}

// R5: whose a call is that several have is always told the same.
func TestCallerOfSeveral(t *testing.T) {
	for seed := range 50 {
		x := table.New()
		for _, n := range rand.New(rand.NewSource(int64(seed))).Perm(9) {
			expectPut(t, x, under(key(n/3, n%3), id(7), 3))
		}
		expectCaller(t, x, id(3), under(key(0, 0), id(7), 3))
	}
}

// changes are all that can be changed of an owner but its key.
func changes() []func(o *owner.Owner) {
	return []func(o *owner.Owner){
		func(o *owner.Owner) { o.Root.Node++ },
		func(o *owner.Owner) { o.Root.Inc++ },
		func(o *owner.Owner) { o.Root.Seq++ },
		func(o *owner.Owner) { o.Parent.Id.Node++ },
		func(o *owner.Owner) { o.Parent.Id.Inc++ },
		func(o *owner.Owner) { o.Parent.Id.Seq++ },
		func(o *owner.Owner) { o.Parent.Att++ },
		func(o *owner.Owner) { o.From-- },
		func(o *owner.Owner) { o.Hop = math.MaxInt },
		func(o *owner.Owner) { o.Deadline = math.MinInt },
		func(o *owner.Owner) { o.Until = 0 },
		func(o *owner.Owner) { o.Program = -1 },
		func(o *owner.Owner) { o.PC = 1 << 50 },
		func(o *owner.Owner) { o.Done = -1 << 50 },
		func(o *owner.Owner) { o.Calls[0].Id.Node++ },
		func(o *owner.Owner) { o.Calls[0].State++ },
		func(o *owner.Owner) { o.Calls[0].Committed = !o.Calls[0].Committed },
		func(o *owner.Owner) { o.Calls[1].Value = math.MinInt },
		func(o *owner.Owner) { o.Calls[0], o.Calls[1] = o.Calls[1], o.Calls[0] },
		func(o *owner.Owner) { o.Calls = o.Calls[1:] },
		func(o *owner.Owner) { o.Calls = nil },
		func(o *owner.Owner) { o.Calls = []call.Call{} },
		func(o *owner.Owner) { *o = owner.Owner{Key: o.Key} },
	}
}

// 24.3: what was put is got as it was, field by field, whatever was there ahead of it.
func TestPutAsItWas(t *testing.T) {
	x := table.New()
	for _, change := range changes() {
		o := full()
		change(&o)
		expectPut(t, x, full())
		expectGet(t, x, full())
		expectPut(t, x, copied(o))
		expectGet(t, x, o)
		expectKeys(t, "keys", x.Keys(), full().Key)
		for _, c := range o.Calls {
			expectCaller(t, x, c.Id, o)
		}
	}
}

// 24.3: the order of putting does not matter.
func TestOrder(t *testing.T) {
	var m model
	for n := range 24 {
		m.put(under(key(n/3, n%3), id(n%4), 100+2*n, 101+2*n))
	}
	for seed := range 50 {
		r := rand.New(rand.NewSource(int64(seed)))
		x := table.New()
		for _, n := range r.Perm(len(m)) {
			expectPut(t, x, m[n])
		}
		expectModel(t, x, m, []api.Key{key(8, 0), key(0, 3)}, []api.Id{id(0), id(1), id(2), id(3), id(4)})
		expectCallers(t, x, m, 150)
	}
}

// 24.1, 24.2 and 24.3: all is told as a list of owners that is gone through tells it, behind whatever was put and dropped.
func TestAtRandom(t *testing.T) {
	var asked []api.Key
	for seq := range 5 {
		for att := range 3 {
			asked = append(asked, key(seq, att))
		}
	}
	roots := []api.Id{id(0), id(1), id(2), id(3)}
	for seed := range 150 {
		r := rand.New(rand.NewSource(int64(seed)))
		x := table.New()
		var m model
		for range 60 {
			k := asked[r.Intn(len(asked))]
			if r.Intn(3) == 0 {
				expectDrop(t, x, k, m.drop(k))
			} else {
				o := under(k, id(r.Intn(3)))
				o.Hop = r.Intn(9)
				for range r.Intn(4) {
					o.Calls = append(o.Calls, call.Call{Id: id(r.Intn(20)), Value: r.Intn(9)})
				}
				expectPut(t, x, o)
				m.put(o)
			}
			expectModel(t, x, m, asked, roots)
			expectCallers(t, x, m, 21)
		}
	}
}

// Owners come and go, as many as there may be; of those that are gone nothing is told.
func TestMany(t *testing.T) {
	const many = 3000
	x := table.New()
	var m model
	for n := range many {
		o := under(key(many-n, n%2), id(n%7), n)
		expectPut(t, x, o)
		m = append(m, o)
	}
	expectModel(t, x, m, nil, []api.Id{id(0), id(6), id(7)})
	for n := range many {
		expectCaller(t, x, id(n), m[n])
		if n%3 > 0 {
			expectDrop(t, x, m[n].Key, true)
		}
	}
	for n := range many {
		if n%3 > 0 {
			expectNone(t, x, m[n].Key)
			expectNoCaller(t, x, id(n))
			continue
		}
		expectGet(t, x, m[n])
		expectCaller(t, x, id(n), m[n])
	}
	if got := len(x.Keys()); got != many/3 {
		t.Errorf("%d keys", got)
	}
}

// R4: what is put is neither changed nor shared, nor is what lies behind its calls.
func TestPutKeepsNoMemory(t *testing.T) {
	x := table.New()
	memory := make([]call.Call, 4)
	for n := range memory {
		memory[n] = call.Call{Id: id(n + 1), Value: n}
	}
	before := slices.Clone(memory)
	o := owner.Owner{Key: key(1, 1), Root: id(9), Calls: memory[:2]}
	want := copied(o)
	expectPut(t, x, o)
	expectCaller(t, x, id(1), want)
	expectNoCaller(t, x, id(3), id(4))
	if !slices.Equal(memory, before) {
		t.Fatalf("changed: %v", memory)
	}
	for n := range memory {
		memory[n] = call.Call{Id: id(50 + n)}
	}
	expectGet(t, x, want)
	expectCaller(t, x, id(1), want)
	expectNoCaller(t, x, id(50), id(51))
	expectPut(t, x, owner.Owner{Key: key(1, 1)})
	expectDrop(t, x, key(1, 1), true)
	expectNoCaller(t, x, id(1), id(2), id(50), id(51))
	if memory[0].Id != id(50) || memory[3].Id != id(53) {
		t.Fatalf("changed: %v", memory)
	}
}

// R4: what is answered can be changed by the asker without changing the table.
func TestAnswersShareNothing(t *testing.T) {
	x := table.New()
	l := []owner.Owner{under(key(1, 1), id(9), 1, 2), under(key(2, 0), id(9), 3), under(key(3, 2), id(9))}
	expectPut(t, x, l...)
	spoil := func(o owner.Owner) {
		for n := range o.Calls {
			o.Calls[n] = call.Call{Id: id(70 + n)}
		}
		_ = append(o.Calls, call.Call{Id: id(80)})
	}
	for range 2 {
		got, _ := x.Get(key(1, 1))
		spoil(got)
		caller, _ := x.Caller(id(2))
		spoil(caller)
		for _, keys := range [][]api.Key{x.Keys(), x.Running(), x.Under(id(9))} {
			for n := range keys {
				keys[n] = key(99, 9)
			}
		}
	}
	expectModel(t, x, l, []api.Key{key(99, 9)}, []api.Id{id(9)})
	expectCallers(t, x, l, 90)
	expectDrop(t, x, key(1, 1), true)
	expectNoCaller(t, x, id(1), id(2), id(70), id(71))
}

// R3 and R5: asking, and dropping what is not there, change nothing.
func TestAsking(t *testing.T) {
	x := table.New()
	l := []owner.Owner{under(key(1, 1), id(9), 1), under(key(2, 0), id(8), 2)}
	expectPut(t, x, l...)
	for range 5 {
		for _, k := range keys() {
			if k != key(1, 1) && k != key(2, 0) {
				expectDrop(t, x, k, false)
			}
		}
		expectModel(t, x, l, keys(), ids())
		expectCallers(t, x, l, 9)
	}
}

// The chapter's example.
func TestExample(t *testing.T) {
	x := table.New()
	expectPut(t, x, under(key(1, 0), id(1)), under(key(2, 1), id(1)))
	expectDrop(t, x, key(1, 0), true)
	expectKeys(t, "keys", x.Keys(), key(2, 1))
}
