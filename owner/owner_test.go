package owner_test

import (
	"math"
	"math/rand"
	"reflect"
	"slices"
	"testing"

	"hourglass/api"
	"hourglass/call"
	"hourglass/owner"
	"hourglass/program"
)

// The kinds, the states, the codes and the greatest numbers are written out, so that a test tells when they are taken wrongly.
const (
	work   = 1
	spawn  = 2
	join   = 3
	head   = 4
	answer = 5
	fail   = 6
	refuse = 7

	works   = 0
	waits   = 1
	spawns  = 2
	heads   = 3
	answers = 4
	fails   = 5
	refuses = 6

	fresh   = 0
	waiting = 1
	resting = 2
	over    = 3

	ok          = 0
	cancelled   = 1
	unknown     = 2
	deadline    = 4
	exhausted   = 8
	internal    = 13
	unavailable = 14

	tick      = 1 << 50
	mostValue = 1<<31 - 1
)

// kinds are all kinds of steps that there are, and some that there are not.
func kinds() []int {
	return []int{math.MinInt, -7, -1, 0, work, spawn, join, head, answer, fail, refuse, 8, 9, 256 + work, 1<<32 + join, math.MaxInt}
}

// states are all that there are, and some that there are not.
func states() []int {
	return []int{math.MinInt, -1, fresh, waiting, resting, over, 4, 256 + over, 1<<32 + over, math.MaxInt}
}

// numbers are ordinary ones, the edges with their neighbours, and numbers out of range.
func numbers() []int {
	return []int{
		math.MinInt, math.MinInt + 1, -tick, -1 << 32, -mostValue, -5, -2, -1, 0, 1, 2, 3, 4, 5, 7, 8, 13, 14, 15, 16, 17, 18, 1000, 1001,
		mostValue - 1, mostValue, mostValue + 1, 1 << 32, tick - 1, tick, tick + 1, math.MaxInt - 1, math.MaxInt,
	}
}

// op is a step.
func op(kind, a, b int) api.Op { return api.Op{Kind: kind, A: a, B: b} }

// act is what is done.
func act(kind, a, b int) owner.Act { return owner.Act{Kind: kind, A: a, B: b} }

// id is a name of the node 0.
func id(seq int) api.Id { return api.Id{Seq: seq} }

// open is a call that waits for an answer.
func open(seq int) call.Call { return call.Call{Id: id(seq), Att: 1, State: waiting} }

// good is a call that is over, with a value.
func good(seq, value int) call.Call { return call.Call{Id: id(seq), State: over, Value: value} }

// bad is a call that is over, with a code.
func bad(seq, code int) call.Call { return call.Call{Id: id(seq), State: over, Code: code} }

// calls is an attempt that makes these calls.
func calls(l ...call.Call) owner.Owner {
	return owner.Owner{Key: api.Key{Id: id(1), Att: 1}, Calls: l}
}

// full is an attempt of which each field is another number than 0.
func full() owner.Owner {
	return owner.Owner{
		Key: api.Key{Id: api.Id{Node: 1, Inc: 2, Seq: 3}, Att: 4}, Root: api.Id{Node: 5, Inc: 6, Seq: 7}, Parent: api.Key{Id: api.Id{Node: 8, Inc: 9, Seq: 10}, Att: 11},
		From: 12, Hop: 13, Deadline: 14, Until: 15, Program: 16, PC: 17, Done: 18,
		Calls: []call.Call{
			{Id: id(19), To: 20, Program: 21, Att: 22, State: waiting, Sent: 23, Ready: 24, Committed: true, Code: 25, Value: 26, Tries: 27},
			{Id: id(28), State: over},
		},
	}
}

// changes are all that can be changed of an owner that has two calls at least.
func changes() []func(o *owner.Owner) {
	return []func(o *owner.Owner){
		func(o *owner.Owner) { o.Key.Id.Node++ },
		func(o *owner.Owner) { o.Key.Id.Inc++ },
		func(o *owner.Owner) { o.Key.Id.Seq++ },
		func(o *owner.Owner) { o.Key.Att++ },
		func(o *owner.Owner) { o.Root.Node++ },
		func(o *owner.Owner) { o.Root.Inc++ },
		func(o *owner.Owner) { o.Root.Seq++ },
		func(o *owner.Owner) { o.Parent.Id.Node++ },
		func(o *owner.Owner) { o.Parent.Id.Inc++ },
		func(o *owner.Owner) { o.Parent.Id.Seq++ },
		func(o *owner.Owner) { o.Parent.Att++ },
		func(o *owner.Owner) { o.From++ },
		func(o *owner.Owner) { o.Hop++ },
		func(o *owner.Owner) { o.Deadline++ },
		func(o *owner.Owner) { o.Until++ },
		func(o *owner.Owner) { o.Program++ },
		func(o *owner.Owner) { o.PC++ },
		func(o *owner.Owner) { o.Done++ },
		func(o *owner.Owner) { o.Calls[0].Id.Node++ },
		func(o *owner.Owner) { o.Calls[0].Id.Inc++ },
		func(o *owner.Owner) { o.Calls[0].Id.Seq++ },
		func(o *owner.Owner) { o.Calls[0].To++ },
		func(o *owner.Owner) { o.Calls[0].Program++ },
		func(o *owner.Owner) { o.Calls[0].Att++ },
		func(o *owner.Owner) { o.Calls[0].State++ },
		func(o *owner.Owner) { o.Calls[0].Sent++ },
		func(o *owner.Owner) { o.Calls[0].Ready++ },
		func(o *owner.Owner) { o.Calls[0].Committed = !o.Calls[0].Committed },
		func(o *owner.Owner) { o.Calls[0].Code++ },
		func(o *owner.Owner) { o.Calls[0].Value++ },
		func(o *owner.Owner) { o.Calls[0].Tries++ },
		func(o *owner.Owner) { o.Calls[1].Value++ },
		func(o *owner.Owner) { o.Calls[0], o.Calls[1] = o.Calls[1], o.Calls[0] },
		func(o *owner.Owner) { o.Calls = o.Calls[1:] },
		func(o *owner.Owner) { o.Calls = o.Calls[:1] },
		func(o *owner.Owner) { o.Calls = nil },
		func(o *owner.Owner) { o.Calls = append(o.Calls, call.Call{}) },
	}
}

// equal is whether two owners are the same, told by another way than the package's.
func equal(a, b owner.Owner) bool {
	calls := slices.Equal(a.Calls, b.Calls)
	a.Calls, b.Calls = nil, nil
	return calls && reflect.DeepEqual(a, b)
}

// copied is an owner with calls of its own.
func copied(o owner.Owner) owner.Owner {
	o.Calls = slices.Clone(o.Calls)
	return o
}

// held is the nearest number to n that is from least to most.
func held(n, least, most int) int {
	switch {
	case n < least:
		return least
	case n > most:
		return most
	}
	return n
}

// right is a code, and of none that there is unknown.
func right(n int) int {
	if n < 0 || n > 16 {
		return unknown
	}
	return n
}

// saying are all codes, by how much they say.
func saying() []int {
	return []int{ok, unavailable, exhausted, 2, 3, 5, 6, 7, 9, 10, 11, 12, 13, 15, 16, deadline, cancelled}
}

// worst is the code that says most, of calls that are over, by the chapters' order.
func worst(l []call.Call) int {
	most := 0
	for _, c := range l {
		if c.State == over {
			most = max(most, slices.Index(saying(), right(c.Code)))
		}
	}
	return saying()[most]
}

// summed is a value with those of all calls, by the chapter's rule.
func summed(l []call.Call, value int) int {
	sum := uint64(held(value, 0, mostValue))
	for _, c := range l {
		sum += uint64(held(c.Value, 0, mostValue))
	}
	return int(sum & mostValue)
}

// waiters is how many calls are not over.
func waiters(l []call.Call) int {
	return len(l) - len(slices.DeleteFunc(slices.Clone(l), func(c call.Call) bool { return c.State != over }))
}

// stepped is what an owner does, and the owner behind it, by the chapter's rule.
func stepped(o owner.Owner, l []api.Op) (owner.Owner, owner.Act) {
	if o.PC < 0 || o.PC > len(l)-1 {
		return o, act(answers, summed(o.Calls, 0), 0)
	}
	on := o
	on.PC, on.Done = o.PC+1, 0
	switch s := l[o.PC]; {
	case s.Kind == work && (o.Done == math.MaxInt || o.Done+1 >= s.A):
		return on, owner.Act{}
	case s.Kind == work:
		o.Done++
		return o, owner.Act{}
	case s.Kind == spawn:
		return on, act(spawns, s.A, s.B)
	case s.Kind == join && waiters(o.Calls) > 0:
		return o, act(waits, 0, 0)
	case s.Kind == join && worst(o.Calls) > 0:
		return o, act(fails, worst(o.Calls), 0)
	case s.Kind == join:
		return on, owner.Act{}
	case s.Kind == head:
		return on, act(heads, 0, 0)
	case s.Kind == answer:
		return o, act(answers, summed(o.Calls, s.A), 0)
	case s.Kind == fail:
		return o, act(fails, right(s.A), 0)
	case s.Kind == refuse:
		return o, act(refuses, max(s.A, -1), 0)
	}
	return o, act(fails, internal, 0)
}

// some are some calls at random, of which a few have the same name.
func some(r *rand.Rand) []call.Call {
	var l []call.Call
	for range r.Intn(6) {
		state := over
		if r.Intn(4) == 0 {
			state = states()[r.Intn(len(states()))]
		}
		l = append(l, call.Call{Id: id(r.Intn(5)), To: r.Intn(3), State: state, Code: r.Intn(40)/2 - 2, Value: numbers()[r.Intn(len(numbers()))]})
		if r.Intn(2) == 0 {
			l[len(l)-1].Code = ok
		}
	}
	return l
}

// step is a step at random, of whatever kind.
func step(r *rand.Rand) api.Op {
	s := op(r.Intn(10)-1, r.Intn(5), r.Intn(3))
	if r.Intn(4) == 0 {
		s.A, s.B = numbers()[r.Intn(len(numbers()))], numbers()[r.Intn(len(numbers()))]
	}
	return s
}

// steps are some steps at random.
func steps(r *rand.Rand) []api.Op {
	var l []api.Op
	for range r.Intn(6) {
		l = append(l, step(r))
	}
	return l
}

func expectOwner(t *testing.T, got, want owner.Owner) {
	t.Helper()
	if !equal(got, want) {
		t.Errorf("%+v, not %+v", got, want)
	}
}

func expectOver(t *testing.T, o owner.Owner, now, code int, is bool) {
	t.Helper()
	if n, got := owner.Over(o, now); n != code || got != is {
		t.Errorf("Over(%+v, %d) = %d, %v, not %d, %v", o, now, n, got, code, is)
	}
}

func expectEnds(t *testing.T, o owner.Owner, want int) {
	t.Helper()
	if got := owner.Ends(o); got != want {
		t.Errorf("Ends(%+v) = %d, not %d", o, got, want)
	}
}

func expectOpen(t *testing.T, o owner.Owner, want int) {
	t.Helper()
	if got := owner.Open(o); got != want {
		t.Errorf("Open(%+v) = %d, not %d", o.Calls, got, want)
	}
}

func expectWorst(t *testing.T, o owner.Owner, want int) {
	t.Helper()
	if got := owner.Worst(o); got != want {
		t.Errorf("Worst(%+v) = %d, not %d", o.Calls, got, want)
	}
}

func expectSum(t *testing.T, o owner.Owner, value, want int) {
	t.Helper()
	if got := owner.Sum(o, value); got != want {
		t.Errorf("Sum(%+v, %d) = %d, not %d", o.Calls, value, got, want)
	}
}

func expectFound(t *testing.T, o owner.Owner, d api.Id, want int) {
	t.Helper()
	if got := owner.Find(o, d); got != want {
		t.Errorf("Find(%+v, %v) = %d, not %d", o.Calls, d, got, want)
	}
}

func expectWith(t *testing.T, o owner.Owner, c call.Call, want ...call.Call) {
	t.Helper()
	got := owner.With(o, c)
	o.Calls = want
	expectOwner(t, got, o)
}

func expectStep(t *testing.T, o owner.Owner, l []api.Op, behind owner.Owner, want owner.Act) {
	t.Helper()
	got, a := owner.Step(o, l)
	if a != want || !equal(got, behind) {
		t.Errorf("Step(%+v, %v) = %+v, %+v, not %+v, %+v", o, l, got, a, behind, want)
	}
}

// expectDone holds a step of a program of this one alone, that goes on, or not, against what is to be done.
func expectDone(t *testing.T, o owner.Owner, s api.Op, goes bool, want owner.Act) {
	t.Helper()
	behind := o
	if goes {
		behind.PC, behind.Done = o.PC+1, 0
	}
	expectStep(t, o, []api.Op{s}, behind, want)
}

// The chapter: the numbers of what is done.
func TestKinds(t *testing.T) {
	got := []int{owner.Works, owner.Waits, owner.Spawns, owner.Heads, owner.Answers, owner.Fails, owner.Refuses}
	if !slices.Equal(got, []int{0, 1, 2, 3, 4, 5, 6}) {
		t.Error(got)
	}
}

// 23.1: of a root the attempt is 0, and nothing else counts.
func TestIsRoot(t *testing.T) {
	if !owner.IsRoot(owner.Owner{}) {
		t.Error("the zero one is no root")
	}
	for _, n := range numbers() {
		o := full()
		o.Key.Att = n
		if owner.IsRoot(o) != (n == 0) {
			t.Error(n)
		}
		o = owner.Owner{Key: api.Key{Att: n}}
		if owner.IsRoot(o) != (n == 0) {
			t.Error(n)
		}
	}
}

// 23.1: who differs in one field, of its own or of a call, is not the same.
func TestSame(t *testing.T) {
	for _, o := range []owner.Owner{{}, full(), calls(open(1), good(2, 3))} {
		if !owner.Same(o, copied(o)) || !owner.Same(o, o) {
			t.Error(o)
		}
	}
	for k, change := range changes() {
		o := full()
		change(&o)
		if owner.Same(o, full()) || owner.Same(full(), o) || !owner.Same(o, copied(o)) {
			t.Error(k, o)
		}
	}
}

// 23.1: a change of one field is not made good by another one.
func TestSameOfTwoChanges(t *testing.T) {
	for k, change := range changes()[:18] {
		for j, other := range changes()[:18] {
			a, b := full(), full()
			change(&a)
			other(&b)
			if owner.Same(a, b) != (j == k) {
				t.Error(k, j)
			}
		}
	}
}

// R1: no list and an empty one are the same.
func TestSameOfNothing(t *testing.T) {
	empty := owner.Owner{Calls: []call.Call{}}
	if !owner.Same(empty, owner.Owner{}) || !owner.Same(owner.Owner{}, empty) {
		t.Error("an empty list is not none")
	}
	expectOwner(t, owner.Clone(empty), owner.Owner{})
	expectWith(t, empty, open(1), open(1))
	expectFound(t, empty, api.Id{}, -1)
	if owner.Same(empty, owner.Owner{Calls: make([]call.Call, 1)}) {
		t.Error("a zero call is none")
	}
}

// 23.1: a clone is the same, and stays so, whatever is done to the other one.
func TestClone(t *testing.T) {
	expectOwner(t, owner.Clone(owner.Owner{}), owner.Owner{})
	for k, change := range changes() {
		o := full()
		c := owner.Clone(o)
		expectOwner(t, c, full())
		change(&o)
		expectOwner(t, c, full())
		o = full()
		c = owner.Clone(o)
		change(&c)
		if equal(o, c) {
			t.Error(k)
		}
		expectOwner(t, o, full())
	}
}

// 23.1: also what is laid behind a clone's calls is not laid behind the other one's.
func TestCloneOfEmptyList(t *testing.T) {
	room := make([]call.Call, 4)
	for size := range 4 {
		o := calls(room[:size]...)
		c := owner.Clone(o)
		c.Calls = append(c.Calls, good(7, 7))
		if slices.ContainsFunc(room, func(c call.Call) bool { return c != call.Call{} }) {
			t.Error(size, room)
		}
	}
}

// 23.1: a root ends at its deadline, an attempt at that or where its lease goes, whichever is earlier.
func TestEnds(t *testing.T) {
	for _, end := range numbers() {
		for _, until := range numbers() {
			root := owner.Owner{Key: api.Key{Id: id(3)}, Deadline: end, Until: until}
			expectEnds(t, root, held(end, 0, tick))
			for _, att := range []int{-1, 1, 2, 5, 1 << 32} {
				o := root
				o.Key.Att = att
				expectEnds(t, o, min(held(end, 0, tick), held(until, 0, tick)))
			}
		}
	}
}

// 23.1: who must stop is told why: for the deadline, else for the lease, that a root has not.
func TestOver(t *testing.T) {
	for _, now := range numbers() {
		for _, end := range numbers() {
			for _, until := range numbers() {
				at, late, gone := held(now, 0, tick), held(end, 0, tick), held(until, 0, tick)
				root := owner.Owner{Deadline: end, Until: until}
				o := root
				o.Key.Att = 1
				switch {
				case at >= late:
					expectOver(t, root, now, deadline, true)
					expectOver(t, o, now, deadline, true)
				case at >= gone:
					expectOver(t, root, now, ok, false)
					expectOver(t, o, now, cancelled, true)
				default:
					expectOver(t, root, now, ok, false)
					expectOver(t, o, now, ok, false)
				}
			}
		}
	}
}

// 23.1: just at Ends it begins.
func TestOverAtItsEnd(t *testing.T) {
	for _, att := range []int{0, 1, 3} {
		for _, end := range []int{1, 10, 20, tick - 1, tick} {
			for _, until := range []int{1, 10, 20, tick - 1, tick} {
				o := owner.Owner{Key: api.Key{Att: att}, Deadline: end, Until: until}
				_, ahead := owner.Over(o, owner.Ends(o)-1)
				_, at := owner.Over(o, owner.Ends(o))
				if ahead || !at {
					t.Error(o)
				}
			}
		}
	}
}

// 23.1: whatever is not over is open, also of a state that there is not.
func TestOpen(t *testing.T) {
	expectOpen(t, owner.Owner{}, 0)
	expectOpen(t, calls(good(1, 2), bad(2, 14)), 0)
	expectOpen(t, calls(good(1, 2), open(2), bad(3, 14), open(4), open(4)), 3)
	for _, state := range states() {
		want := 1
		if state == over {
			want = 0
		}
		expectOpen(t, calls(call.Call{State: state, Code: 14, Value: 7}), want)
		expectOpen(t, calls(good(1, 2), call.Call{State: state}, open(3)), want+1)
	}
	expectOpen(t, calls(slices.Repeat([]call.Call{open(1)}, 1000)...), 1000)
}

// 23.1: of the codes of calls that are over the one that says most, in whatever order.
func TestWorst(t *testing.T) {
	expectWorst(t, owner.Owner{}, ok)
	expectWorst(t, calls(good(1, 7), good(2, 8)), ok)
	for k, a := range saying() {
		expectWorst(t, calls(bad(1, a)), a)
		for j, b := range saying() {
			want := saying()[max(j, k)]
			expectWorst(t, calls(bad(1, a), bad(2, b)), want)
			expectWorst(t, calls(good(1, 1), bad(2, a), bad(2, b), good(3, 3), bad(4, a)), want)
		}
	}
}

// 23.1: of a code that there is not it is unknown that counts.
func TestWorstOfNoCode(t *testing.T) {
	for _, n := range numbers() {
		expectWorst(t, calls(bad(1, n)), right(n))
		expectWorst(t, calls(bad(1, n), bad(2, unavailable)), worst([]call.Call{bad(1, n), bad(2, unavailable)}))
	}
	expectWorst(t, calls(bad(1, 17), bad(2, 16)), 16)
	expectWorst(t, calls(bad(1, -1), bad(2, exhausted)), unknown)
}

// 23.1: what is not over says nothing, whatever its code.
func TestWorstOfOpenCalls(t *testing.T) {
	for _, state := range states() {
		c := call.Call{Id: id(1), State: state, Code: cancelled}
		want := ok
		if state == over {
			want = cancelled
		}
		expectWorst(t, calls(c), want)
		expectWorst(t, calls(c, bad(2, unavailable)), worst([]call.Call{c, bad(2, unavailable)}))
	}
}

// 23.1: a value, and those of all calls, each within its limits, are summed modulo 2^31.
func TestSum(t *testing.T) {
	for _, n := range numbers() {
		expectSum(t, owner.Owner{}, n, held(n, 0, mostValue))
		expectSum(t, calls(good(1, n)), 0, held(n, 0, mostValue))
		for _, m := range numbers() {
			want := (held(n, 0, mostValue) + held(m, 0, mostValue)) % (mostValue + 1)
			expectSum(t, calls(good(1, n)), m, want)
			expectSum(t, calls(good(1, n), open(2), good(3, m)), 0, want)
			expectSum(t, calls(good(1, n), good(1, m)), mostValue, (want+mostValue)%(mostValue+1))
		}
	}
	expectSum(t, calls(good(1, 2), good(2, 3)), 5, 10)
	expectSum(t, calls(good(1, mostValue)), 1, 0)
	expectSum(t, calls(good(1, mostValue)), mostValue, mostValue-1)
	expectSum(t, calls(slices.Repeat([]call.Call{good(1, math.MaxInt)}, 1<<16)...), 0, mostValue+1-1<<16)
}

// 23.1: all calls are summed, of whatever state and code.
func TestSumOfStates(t *testing.T) {
	for _, state := range states() {
		expectSum(t, calls(call.Call{State: state, Value: 7, Code: 14}, good(2, 3)), 1, 11)
	}
}

// 23.1: the first call of a name is found, which all three numbers tell.
func TestFind(t *testing.T) {
	for node := range 3 {
		for inc := range 3 {
			for seq := range 3 {
				d := api.Id{Node: node, Inc: inc, Seq: seq}
				c := call.Call{Id: d, Value: 9}
				expectFound(t, owner.Owner{}, d, -1)
				expectFound(t, calls(c), d, 0)
				expectFound(t, calls(open(70), open(71), c, open(72), c), d, 2)
				for _, other := range []api.Id{{Node: node + 1, Inc: inc, Seq: seq}, {Node: node, Inc: inc + 1, Seq: seq}, {Node: node, Inc: inc, Seq: seq + 1}, {Node: -node - 1, Inc: inc, Seq: seq}} {
					expectFound(t, calls(c), other, -1)
					expectFound(t, calls(call.Call{Id: other}, c), d, 1)
				}
			}
		}
	}
	// An owner's own names are none of its calls'.
	o := full()
	for _, d := range []api.Id{o.Key.Id, o.Root, o.Parent.Id} {
		expectFound(t, o, d, -1)
	}
}

// 23.1: a call is there instead of the first one of its name, else behind all.
func TestWith(t *testing.T) {
	expectWith(t, owner.Owner{}, open(1), open(1))
	expectWith(t, owner.Owner{}, call.Call{}, call.Call{})
	expectWith(t, calls(open(1)), good(1, 7), good(1, 7))
	expectWith(t, calls(open(1)), good(2, 7), open(1), good(2, 7))
	expectWith(t, calls(open(1), open(2), open(3)), good(1, 7), good(1, 7), open(2), open(3))
	expectWith(t, calls(open(1), open(2), open(3)), good(2, 7), open(1), good(2, 7), open(3))
	expectWith(t, calls(open(1), open(2), open(3)), good(3, 7), open(1), open(2), good(3, 7))
	expectWith(t, calls(open(1), open(2), open(3)), good(0, 7), open(1), open(2), open(3), good(0, 7))
	expectWith(t, calls(open(1), open(2), bad(2, 3)), good(2, 7), open(1), good(2, 7), bad(2, 3))
	elsewhere := call.Call{Id: api.Id{Node: 1, Seq: 1}}
	expectWith(t, calls(open(1)), elsewhere, open(1), elsewhere)
	o := full()
	expectWith(t, o, good(28, 1), o.Calls[0], good(28, 1))
	expectWith(t, o, good(29, 1), o.Calls[0], o.Calls[1], good(29, 1))
}

// 23.1: what was put there is found, whole, and with no other one changed.
func TestWithIsFound(t *testing.T) {
	var o owner.Owner
	for seq := 1; seq <= 20; seq++ {
		o = owner.With(o, open(seq))
		for k := range seq {
			expectFound(t, o, id(k+1), k)
		}
	}
	for seq := 1; seq <= 20; seq++ {
		o = owner.With(o, good(seq, seq))
		expectOpen(t, o, 20-seq)
	}
	expectSum(t, o, 0, 210)
}

// 23.2: who is at no step of its program answers with what its calls told.
func TestStepOfNone(t *testing.T) {
	for _, size := range []int{0, 1, 3, 16, 20} {
		l := slices.Repeat([]api.Op{op(fail, 3, 0)}, size)
		for _, pc := range append(numbers(), size-1, size, size+1) {
			for _, done := range []int{math.MinInt, 0, 5, math.MaxInt} {
				o := calls(good(1, 5), open(2), good(3, mostValue))
				o.PC, o.Done = pc, done
				if pc < 0 || pc >= size {
					expectStep(t, o, l, o, act(answers, 4, 0))
				} else {
					expectStep(t, o, l, o, act(fails, 3, 0))
				}
			}
		}
	}
	expectStep(t, owner.Owner{}, nil, owner.Owner{}, act(answers, 0, 0))
	expectStep(t, owner.Owner{}, []api.Op{}, owner.Owner{}, act(answers, 0, 0))
}

// 23.2: the step is done at which the owner is, and no other one.
func TestStepOfPlaces(t *testing.T) {
	l := []api.Op{op(work, 2, 0), op(spawn, 1, 2), op(head, 0, 0), op(join, 0, 0), op(answer, 5, 0), op(fail, 8, 0), op(refuse, 7, 0)}
	want := []owner.Act{act(works, 0, 0), act(spawns, 1, 2), act(heads, 0, 0), act(works, 0, 0), act(answers, 5, 0), act(fails, 8, 0), act(refuses, 7, 0), act(answers, 0, 0)}
	for pc, a := range want {
		o := full()
		o.PC, o.Done, o.Calls = pc, 0, nil
		behind := o
		switch {
		case pc == 0:
			behind.Done = 1
		case pc < 4:
			behind.PC = pc + 1
		}
		expectStep(t, o, l, behind, a)
	}
}

// 23.2: a Work has as many units as it says, one at the least, and goes on behind the last one.
func TestStepOfWork(t *testing.T) {
	for _, n := range numbers() {
		for _, done := range append(numbers(), n-2, n-1, n, n+1) {
			for _, b := range []int{0, 9} {
				o := full()
				o.PC, o.Done = 0, done
				if done == math.MaxInt || done+1 >= n {
					expectDone(t, o, op(work, n, b), true, owner.Act{})
				} else {
					behind := copied(o)
					behind.Done = done + 1
					expectStep(t, o, []api.Op{op(work, n, b)}, behind, owner.Act{})
				}
			}
		}
	}
}

// 23.2: units are done one by one.
func TestStepsOfWork(t *testing.T) {
	for _, n := range []int{math.MinInt, -1, 0, 1, 2, 3, 999, 1000, 1001} {
		l := []api.Op{op(work, n, 0), op(work, n, 0), op(answer, 5, 0)}
		o := owner.Owner{}
		for k := range 2 * max(n, 1) {
			if want := k / max(n, 1); o.PC != want || o.Done != k%max(n, 1) {
				t.Error(n, k, o)
			}
			var a owner.Act
			if o, a = owner.Step(o, l); a != (owner.Act{}) {
				t.Error(n, k, a)
			}
		}
		expectStep(t, o, l, owner.Owner{PC: 2}, act(answers, 5, 0))
	}
}

// 23.2: a Spawn tells its numbers, as they are, and goes on, whatever calls there are.
func TestStepOfSpawn(t *testing.T) {
	for _, o := range []owner.Owner{{}, {Done: 7}, calls(open(1)), calls(bad(1, 14)), calls(slices.Repeat([]call.Call{open(1)}, 9)...)} {
		for _, a := range numbers() {
			for _, b := range numbers() {
				expectDone(t, o, op(spawn, a, b), true, act(spawns, a, b))
			}
		}
	}
}

// 23.2: a Join waits for what is open, fails, if something failed, and else goes on.
func TestStepOfJoin(t *testing.T) {
	for _, o := range []owner.Owner{{}, {Done: 7}, calls(good(1, 7)), calls(good(1, 7), good(2, mostValue))} {
		expectDone(t, o, op(join, 0, 0), true, owner.Act{})
		expectDone(t, o, op(join, 5, 6), true, owner.Act{})
	}
	for _, state := range states() {
		if state == over {
			continue
		}
		c := call.Call{Id: id(1), State: state, Code: 3, Value: 7}
		for _, o := range []owner.Owner{calls(c), calls(good(2, 7), c), calls(c, bad(2, cancelled)), calls(bad(2, 14), c, good(3, 1))} {
			o.Done = 5
			expectDone(t, o, op(join, 0, 0), false, act(waits, 0, 0))
			expectDone(t, o, op(join, 8, 9), false, act(waits, 0, 0))
		}
	}
	for n := 1; n <= 16; n++ {
		o := calls(good(1, 7), bad(2, n), good(3, 7))
		o.Done = 5
		expectDone(t, o, op(join, 0, 0), false, act(fails, n, 0))
		expectDone(t, calls(bad(1, unavailable), bad(2, n)), op(join, 4, 4), false, act(fails, n, 0))
		expectDone(t, calls(bad(1, n), bad(2, cancelled)), op(join, 0, 0), false, act(fails, cancelled, 0))
	}
	expectDone(t, calls(bad(1, 17)), op(join, 0, 0), false, act(fails, unknown, 0))
	expectDone(t, calls(bad(1, -1)), op(join, 0, 0), false, act(fails, unknown, 0))
}

// 23.2: a Head goes on, whatever calls there are, and numbers that it has not count for nothing.
func TestStepOfHead(t *testing.T) {
	for _, o := range []owner.Owner{{}, {Done: 7}, calls(open(1)), calls(bad(1, 14)), calls(good(1, 7))} {
		expectDone(t, o, op(head, 0, 0), true, act(heads, 0, 0))
		expectDone(t, o, op(head, 5, 6), true, act(heads, 0, 0))
	}
}

// 23.2: an Answer tells its value, and those of all calls, together; the owner stays.
func TestStepOfAnswer(t *testing.T) {
	for _, n := range numbers() {
		for _, b := range []int{0, 9} {
			expectDone(t, owner.Owner{Done: 7}, op(answer, n, b), false, act(answers, held(n, 0, mostValue), 0))
			o := calls(good(1, mostValue), open(2), bad(3, 14), good(4, 3))
			expectDone(t, o, op(answer, n, b), false, act(answers, (held(n, 0, mostValue)+2)%(mostValue+1), 0))
		}
	}
}

// 23.2: a Fail tells its code, and of none that there is unknown; the owner stays.
func TestStepOfFail(t *testing.T) {
	for _, n := range numbers() {
		for _, b := range []int{0, 9} {
			expectDone(t, owner.Owner{Done: 7}, op(fail, n, b), false, act(fails, right(n), 0))
			expectDone(t, calls(open(1), bad(2, cancelled), good(3, 5)), op(fail, n, b), false, act(fails, right(n), 0))
		}
	}
	for n := range 17 {
		expectDone(t, owner.Owner{}, op(fail, n, 0), false, act(fails, n, 0))
	}
}

// 23.2: a Refuse tells its wait, -1 at the least, and nothing at the most; the owner stays.
func TestStepOfRefuse(t *testing.T) {
	for _, n := range numbers() {
		for _, b := range []int{0, 9} {
			expectDone(t, owner.Owner{Done: 7}, op(refuse, n, b), false, act(refuses, max(n, -1), 0))
			expectDone(t, calls(open(1), bad(2, cancelled), good(3, 5)), op(refuse, n, b), false, act(refuses, max(n, -1), 0))
		}
	}
}

// 23.2: a step of a kind that there is not fails as internal; the owner stays.
func TestStepOfOtherKinds(t *testing.T) {
	for _, kind := range kinds() {
		if kind >= work && kind <= refuse {
			continue
		}
		for _, n := range numbers() {
			expectDone(t, owner.Owner{Done: 7}, op(kind, n, n), false, act(fails, internal, 0))
			expectDone(t, calls(open(1), bad(2, cancelled)), op(kind, n, 0), false, act(fails, internal, 0))
		}
	}
}

// 23.2: but for PC and Done an owner stays as it was, and what it is, and when it ends, counts for nothing.
func TestStepKeepsTheRest(t *testing.T) {
	for _, kind := range kinds() {
		for pc := range 3 {
			l := slices.Repeat([]api.Op{op(kind, 2, 1)}, 2)
			o := full()
			o.PC = pc
			for _, att := range []int{-1, 0, 1, 5} {
				for _, n := range []int{-1, 0, tick} {
					o.Key.Att, o.Deadline, o.Until, o.Hop, o.Program = att, n, n, n, n
					behind, want := stepped(o, l)
					expectStep(t, o, l, behind, want)
				}
			}
		}
	}
}

// 23.3: a program that waits for nobody ends behind as many steps as it has units, and 1, at the most.
func TestEndsInTime(t *testing.T) {
	r := rand.New(rand.NewSource(23))
	for range 5000 {
		var l []api.Op
		for range r.Intn(api.MaxProgram + 1) {
			s := []api.Op{op(work, 1+r.Intn(40), 0), op(spawn, r.Intn(3), r.Intn(3)), op(join, 0, 0), op(head, 0, 0)}[r.Intn(4)]
			if r.Intn(12) == 0 {
				s = []api.Op{op(answer, r.Intn(9), 0), op(fail, 1+r.Intn(16), 0), op(refuse, r.Intn(9)-1, 0)}[r.Intn(3)]
			}
			l = append(l, s)
		}
		expectEnd(t, calls(some(r)...), l)
		expectEnd(t, owner.Owner{}, l)
	}
	expectEnd(t, owner.Owner{}, nil)
	expectEnd(t, owner.Owner{}, slices.Repeat([]api.Op{op(work, 1000, 0)}, 16))
}

// expectEnd goes through a program whose calls are all over at once.
func expectEnd(t *testing.T, o owner.Owner, l []api.Op) {
	t.Helper()
	for k := range o.Calls {
		o.Calls[k].State = over
	}
	units := program.Units(l)
	for n := range units + 1 {
		var a owner.Act
		o, a = owner.Step(o, l)
		switch a.Kind {
		case answers, fails, refuses:
			return
		case waits:
			t.Fatalf("%v waits", l)
		case spawns:
			o = owner.With(o, good(100+n, 1))
		}
	}
	t.Errorf("%v has %d units, and does not end", l, units)
}

// 23.3: a program of steps that all go on ends just behind its units, and 1.
func TestEndsJustThen(t *testing.T) {
	l := []api.Op{op(work, 3, 0), op(spawn, 1, 2), op(head, 0, 0), op(join, 0, 0), op(work, 1, 0)}
	o := owner.Owner{}
	for n := range program.Units(l) + 1 {
		var a owner.Act
		if o, a = owner.Step(o, l); (a.Kind == answers) != (n == 7) {
			t.Error(n, a)
		}
	}
}

// 23.1, 23.2: by the rule, whatever the owner and its program are.
func TestByTheRule(t *testing.T) {
	r := rand.New(rand.NewSource(32))
	for range 20000 {
		o := full()
		o.Key.Att, o.PC, o.Done, o.Calls = r.Intn(2), r.Intn(8)-1, r.Intn(5), some(r)
		l := steps(r)
		expectOpen(t, o, waiters(o.Calls))
		expectWorst(t, o, worst(o.Calls))
		n := numbers()[r.Intn(len(numbers()))]
		expectSum(t, o, n, summed(o.Calls, n))
		behind, want := stepped(o, l)
		expectStep(t, o, l, behind, want)
		c := good(r.Intn(6), 77)
		k := owner.Find(o, c.Id)
		w := owner.With(o, c)
		if k < 0 {
			k = len(o.Calls)
			o.Calls = append(o.Calls, call.Call{})
		}
		if slices.ContainsFunc(o.Calls[:k], func(d call.Call) bool { return d.Id == c.Id }) {
			t.Error(o, k)
		}
		o.Calls[k] = c
		expectOwner(t, w, o)
	}
}

// R4: what is handed in stays, nor is what lies behind it written; what is answered can be changed.
func TestMemory(t *testing.T) {
	room := []call.Call{open(1), good(2, 5), bad(3, 14), open(4), good(5, 6), bad(6, 13)}
	kept := slices.Clone(room)
	for size := range len(room) {
		for _, kind := range kinds() {
			for pc := range 3 {
				l := []api.Op{op(kind, 2, 1), op(kind, 1, 0), op(fail, 3, 0)}
				o := calls(room[:size]...)
				o.PC = pc
				behind, _ := owner.Step(o, l[:2])
				behind.Calls = append(behind.Calls, good(9, 9))
				behind.Calls[0].Value++
				if !slices.Equal(l, []api.Op{op(kind, 2, 1), op(kind, 1, 0), op(fail, 3, 0)}) {
					t.Error(l)
				}
			}
		}
		for _, c := range []call.Call{good(1, 8), good(2, 8), good(4, 8), good(7, 8)} {
			w := owner.With(calls(room[:size]...), c)
			w.Calls = append(w.Calls, good(9, 9))
			w.Calls[0].Value++
		}
		if !slices.Equal(room, kept) {
			t.Fatal(size, room)
		}
	}
}

// R4: what lies behind a list's length counts for nothing.
func TestBehindTheList(t *testing.T) {
	room := []call.Call{good(1, 5), open(2), bad(3, 14)}
	o := calls(room[:1]...)
	expectOpen(t, o, 0)
	expectWorst(t, o, ok)
	expectSum(t, calls(append(room[:1:1], good(2, 7))[:1]...), 0, 5)
	expectFound(t, o, id(2), -1)
	expectWith(t, o, good(2, 8), room[0], good(2, 8))
	expectStep(t, owner.Owner{PC: 1}, []api.Op{op(head, 0, 0), op(fail, 3, 0)}[:1], owner.Owner{PC: 1}, act(answers, 0, 0))
}

// R5: what is asked twice is answered twice the same.
func TestSameAgain(t *testing.T) {
	r := rand.New(rand.NewSource(5))
	for range 500 {
		o := calls(some(r)...)
		o.PC = r.Intn(4)
		l := steps(r)
		a, did := owner.Step(o, l)
		b, does := owner.Step(o, l)
		if did != does || !equal(a, b) || owner.Worst(o) != owner.Worst(o) || owner.Sum(o, 5) != owner.Sum(o, 5) {
			t.Error(o, l)
		}
	}
}

// The chapter's example.
func TestExample(t *testing.T) {
	l, _ := program.Parse("work 2; answer 5", 1, 1)
	o, first := owner.Step(owner.Owner{}, l)
	o, second := owner.Step(o, l)
	_, third := owner.Step(o, l)
	if first != (owner.Act{Kind: owner.Works}) || second != first || third != (owner.Act{Kind: owner.Answers, A: 5}) {
		t.Error(first, second, third)
	}
}
