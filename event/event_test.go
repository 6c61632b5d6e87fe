package event_test

import (
	"math"
	"math/rand"
	"slices"
	"strconv"
	"strings"
	"testing"

	"hourglass/api"
	"hourglass/event"
)

// The kinds are written out, so that a test tells when they are taken wrongly.
const (
	issued    = 1
	sent      = 2
	started   = 3
	worked    = 4
	stopped   = 5
	replied   = 6
	ended     = 7
	dropped   = 8
	crashed   = 9
	pushed    = 10
	committed = 11
)

// words are those of all kinds, in the order of their numbers, from 1 on.
func words() []string {
	return []string{"issued", "sent", "started", "worked", "stopped", "replied", "ended", "cancelled", "crashed", "pushed", "committed"}
}

// right are all kinds that there are.
func right() []int {
	return []int{issued, sent, started, worked, stopped, replied, ended, dropped, crashed, pushed, committed}
}

// none are numbers of which no kind is.
func none() []int {
	return []int{math.MinInt, math.MinInt + 1, -1 << 32, -256, -12, -11, -9, -2, -1, 0, 12, 13, 14, 100, 255, 256, 256 + started, 1 << 32, 1<<32 + sent, math.MaxInt - 1, math.MaxInt}
}

// kinds are those that there are, and some that there are not.
func kinds() []int { return append(right(), none()...) }

// numbers are ordinary ones, edges, and such as no field ever has in a mesh.
func numbers() []int {
	return []int{math.MinInt, -1 << 50, -1001, -10, -9, -1, 0, 1, 7, 9, 10, 16, 17, 63, 64, 100, 1000, 1<<24 - 1, 1 << 24, 1<<31 - 1, 1 << 31, 1 << 50, 1<<50 + 1, math.MaxInt}
}

// id is a name of the node 0.
func id(seq int) api.Id { return api.Id{Seq: seq} }

// key is an attempt of a name of the node 0.
func key(seq, att int) api.Key { return api.Key{Id: id(seq), Att: att} }

// begin is that an attempt was begun, by somebody.
func begin(k, parent api.Key) api.Event { return api.Event{Kind: started, Key: k, Parent: parent} }

// full is an event of a kind, of which each other field is another number.
func full(kind int) api.Event {
	return api.Event{
		Kind: kind, Real: 21, Node: 22, Local: 23,
		Key:    api.Key{Id: api.Id{Node: 24, Inc: 25, Seq: 26}, Att: 27},
		Parent: api.Key{Id: api.Id{Node: 28, Inc: 29, Seq: 30}, Att: 31},
		Root:   api.Id{Node: 32, Inc: 33, Seq: 34},
		Hop:    35, Code: 36, Value: 37,
	}
}

// places are all numbers of an event but its kind.
func places(e *api.Event) []*int {
	return []*int{
		&e.Real, &e.Node, &e.Local, &e.Key.Id.Node, &e.Key.Id.Inc, &e.Key.Id.Seq, &e.Key.Att,
		&e.Parent.Id.Node, &e.Parent.Id.Inc, &e.Parent.Id.Seq, &e.Parent.Att, &e.Root.Node, &e.Root.Inc, &e.Root.Seq, &e.Hop, &e.Code, &e.Value,
	}
}

// told is an event's line, by a pattern of its kind, in which each letter is a number.
func told(e api.Event) string {
	pattern := "r ? at n l k.i.s/a"
	if e.Kind >= issued && e.Kind <= committed {
		pattern = []string{
			issued:    "r issued at n l k.i.s/a value v",
			sent:      "r sent at n l k.i.s/a by K.I.S/A under x.y.z hop h",
			started:   "r started at n l k.i.s/a by K.I.S/A under x.y.z hop h",
			worked:    "r worked at n l k.i.s/a",
			stopped:   "r stopped at n l k.i.s/a code c value v",
			replied:   "r replied at n l k.i.s/a code c value v",
			ended:     "r ended at n l k.i.s/a code c value v",
			dropped:   "r cancelled at n l k.i.s/a",
			crashed:   "r crashed at n l",
			pushed:    "r pushed at n l k.i.s/a value v",
			committed: "r committed at n l k.i.s/a",
		}[e.Kind]
	}
	var fields []string
	for _, word := range strings.Split(pattern, " ") {
		fields = append(fields, filled(word, places(&e)))
	}
	return strings.Join(fields, " ")
}

// filled is a word of a pattern with the numbers instead of its letters, each of which stands alone among signs; a longer word is as it is.
func filled(word string, l []*int) string {
	if len(word) > 1 && !strings.ContainsAny(word, "./") {
		return word
	}
	s := ""
	for _, letter := range word {
		n := strings.IndexRune("rnlkisaKISAxyzhcv", letter)
		if n < 0 {
			s += string(letter)
		} else {
			s += strconv.FormatInt(int64(*l[n]), 10)
		}
	}
	return s
}

// shows is whether a kind's line tells the number at a place.
func shows(kind, place int) bool {
	switch {
	case place < 3:
		return true
	case place < 7:
		return kind != crashed
	case place < 15:
		return kind == sent || kind == started
	case place == 15:
		return kind == stopped || kind == replied || kind == ended
	}
	return kind == stopped || kind == replied || kind == ended || kind == issued || kind == pushed
}

// random is an event of a few names, of any kind.
func random(r *rand.Rand, names int) api.Event {
	e := full(r.Intn(13))
	for _, n := range places(&e) {
		*n = r.Intn(3) - 1
	}
	e.Key, e.Parent = key(r.Intn(names), r.Intn(2)), key(r.Intn(names), r.Intn(2))
	return e
}

// below is who is below an owner, told from one event to the next by lists that are gone through.
func below(l []api.Event, k api.Key) []api.Key {
	var keys []api.Key
	for _, e := range l {
		if e.Kind == started && (e.Parent == k || slices.Contains(keys, e.Parent)) && e.Key != k && !slices.Contains(keys, e.Key) {
			keys = append(keys, e.Key)
		}
	}
	return keys
}

func expectLine(t *testing.T, e api.Event, want string) {
	t.Helper()
	if got := event.Line(e); got != want {
		t.Fatalf("Line(%v) = %q, not %q", e, got, want)
	}
}

func expectText(t *testing.T, l []api.Event, want string) {
	t.Helper()
	if got := event.Text(l); got != want {
		t.Fatalf("Text(%v) = %q, not %q", l, got, want)
	}
}

func expectEvents(t *testing.T, what string, got []api.Event, want ...api.Event) {
	t.Helper()
	if !slices.Equal(got, want) {
		t.Fatalf("%s: %v, not %v", what, got, want)
	}
}

func expectBelow(t *testing.T, l []api.Event, k api.Key, want ...api.Key) {
	t.Helper()
	if got := event.Below(l, k); !slices.Equal(got, want) {
		t.Fatalf("Below(%v, %v) = %v, not %v", l, k, got, want)
	}
}

// 25.1: each kind has its word, and what is no kind has one that no kind has.
func TestName(t *testing.T) {
	for n, kind := range right() {
		if kind != n+1 {
			t.Fatalf("kind %d at %d", kind, n)
		}
		if got := event.Name(kind); got != words()[n] {
			t.Errorf("Name(%d) = %q", kind, got)
		}
	}
	for _, kind := range none() {
		if got := event.Name(kind); got != "?" {
			t.Errorf("Name(%d) = %q", kind, got)
		}
	}
}

// 25.1: the lines of all kinds, written out.
func TestLine(t *testing.T) {
	const by, result = " by 28.29.30/31 under 32.33.34 hop 35", " code 36 value 37"
	for n, want := range []string{
		"21 ? at 22 23 24.25.26/27",
		"21 issued at 22 23 24.25.26/27 value 37",
		"21 sent at 22 23 24.25.26/27" + by,
		"21 started at 22 23 24.25.26/27" + by,
		"21 worked at 22 23 24.25.26/27",
		"21 stopped at 22 23 24.25.26/27" + result,
		"21 replied at 22 23 24.25.26/27" + result,
		"21 ended at 22 23 24.25.26/27" + result,
		"21 cancelled at 22 23 24.25.26/27",
		"21 crashed at 22 23",
		"21 pushed at 22 23 24.25.26/27 value 37",
		"21 committed at 22 23 24.25.26/27",
		"21 ? at 22 23 24.25.26/27",
	} {
		expectLine(t, full(n), want)
	}
	for _, kind := range none() {
		expectLine(t, full(kind), "21 ? at 22 23 24.25.26/27")
	}
}

// 25.1: where all is 0, it is told as 0, also what is asked of no kind.
func TestLineOfZeros(t *testing.T) {
	expectLine(t, api.Event{}, "0 ? at 0 0 0.0.0/0")
	expectLine(t, api.Event{Kind: issued}, "0 issued at 0 0 0.0.0/0 value 0")
	expectLine(t, api.Event{Kind: sent}, "0 sent at 0 0 0.0.0/0 by 0.0.0/0 under 0.0.0 hop 0")
	expectLine(t, api.Event{Kind: ended}, "0 ended at 0 0 0.0.0/0 code 0 value 0")
	expectLine(t, api.Event{Kind: crashed}, "0 crashed at 0 0")
}

// 25.1: each number is told decimal in its own place, with a - ahead of those below 0, and no other one is.
func TestLineOfEachNumber(t *testing.T) {
	for _, kind := range kinds() {
		for place := range places(new(api.Event)) {
			for _, n := range numbers() {
				e := full(kind)
				*places(&e)[place] = n
				expectLine(t, e, told(e))
				if got := event.Line(e) != event.Line(full(kind)); got != shows(kind, place) {
					t.Fatalf("%v: %q", e, event.Line(e))
				}
			}
		}
	}
	for _, kind := range kinds() {
		for _, n := range numbers() {
			e := full(kind)
			for _, p := range places(&e) {
				*p = n
			}
			expectLine(t, e, told(e))
		}
	}
}

// 25.1: a blank stands between all words, and none else; a line feed behind each line alone.
func TestLineHasWords(t *testing.T) {
	for _, kind := range kinds() {
		line := event.Line(full(kind))
		if strings.Join(strings.Fields(line), " ") != line || strings.ContainsAny(line, "\n\t\r") {
			t.Errorf("%q", line)
		}
	}
}

// 25.1: a text is all lines, in order, with a line feed behind each, the last one too; of nothing it is empty.
func TestText(t *testing.T) {
	expectText(t, nil, "")
	expectText(t, []api.Event{}, "")
	expectText(t, make([]api.Event, 1), "0 ? at 0 0 0.0.0/0\n")
	expectText(t, make([]api.Event, 3), "0 ? at 0 0 0.0.0/0\n0 ? at 0 0 0.0.0/0\n0 ? at 0 0 0.0.0/0\n")
	for _, kind := range kinds() {
		expectText(t, []api.Event{full(kind)}, told(full(kind))+"\n")
	}
	var l []api.Event
	want := ""
	for n, kind := range append(kinds(), kinds()...) {
		e := full(kind)
		e.Real = 100 - n
		l = append(l, e)
		want += told(e) + "\n"
		expectText(t, l, want)
	}
}

// Of many events there are as many lines.
func TestTextOfMany(t *testing.T) {
	const many = 20000
	l := make([]api.Event, many)
	for n := range l {
		l[n] = full(n % 12)
		l[n].Real = n
	}
	lines := strings.Split(event.Text(l), "\n")
	if len(lines) != many+1 || lines[many] != "" {
		t.Fatalf("%d lines", len(lines))
	}
	for n := range l {
		if lines[n] != told(l[n]) {
			t.Fatalf("%q at %d", lines[n], n)
		}
	}
}

// 25.2: of a kind are those that say so, in order, as they are; of what is no kind too.
func TestOf(t *testing.T) {
	for _, kind := range kinds() {
		expectEvents(t, "none", event.Of(nil, kind))
		expectEvents(t, "none", event.Of([]api.Event{}, kind))
	}
	var l []api.Event
	for n, kind := range append(kinds(), kinds()...) {
		e := full(kind)
		e.Real = 100 - n
		l = append(l, e)
	}
	for n, kind := range kinds() {
		expectEvents(t, "of", event.Of(l, kind), l[n], l[n+len(kinds())])
		expectEvents(t, "of one", event.Of(l[n:n+1], kind), l[n])
		others := slices.DeleteFunc(slices.Clone(l), func(e api.Event) bool { return e.Kind == kind })
		expectEvents(t, "of others", event.Of(others, kind))
	}
	// The same one again is told as often as it happened.
	expectEvents(t, "again", event.Of([]api.Event{l[0], l[0], l[1], l[0]}, l[0].Kind), l[0], l[0], l[0])
}

// 25.2: of a key are those of whatever kind, but crashes, in order.
func TestKeyOfEachKind(t *testing.T) {
	k := full(0).Key
	var l, want []api.Event
	for _, kind := range append(kinds(), kinds()...) {
		e := full(kind)
		e.Real = len(l)
		l = append(l, e)
		if kind != crashed {
			want = append(want, e)
		}
	}
	expectEvents(t, "key", event.Key(l, k), want...)
	expectEvents(t, "crashes", event.Key(event.Of(l, crashed), k))
	expectEvents(t, "none", event.Key(nil, k))
	expectEvents(t, "none", event.Key([]api.Event{}, api.Key{}))
	// A crash has the zero key, and is of nobody; whoever else has it is told.
	expectEvents(t, "zero", event.Key([]api.Event{{Kind: crashed}, {Kind: worked}, {Kind: crashed}, {}}, api.Key{}), api.Event{Kind: worked}, api.Event{})
}

// 25.2: a key is another one, if any of its parts is; whose parent, or root, it is does not count.
func TestKeyOfEachPart(t *testing.T) {
	var l []api.Event
	for place := range 4 {
		for _, n := range numbers() {
			e := full(worked)
			*places(&e)[3+place] = n
			e.Parent, e.Root = full(0).Key, full(0).Key.Id
			l = append(l, e)
		}
	}
	expectEvents(t, "parents", event.Key(l, full(0).Key))
	expectEvents(t, "parents", event.Key(l, full(0).Parent))
	for n, e := range l {
		expectEvents(t, "part", event.Key(l, e.Key), l[n])
	}
}

// 25.2: below an owner are those that were begun by it, and by those that were, in order.
func TestBelow(t *testing.T) {
	l := []api.Event{
		{Kind: issued, Key: key(1, 0)},
		begin(key(2, 1), key(1, 0)),
		begin(key(9, 1), key(8, 0)),
		begin(key(3, 1), key(2, 1)),
		begin(key(4, 1), key(1, 0)),
		begin(key(5, 1), key(4, 1)),
		begin(key(2, 2), key(1, 0)),
		begin(key(6, 1), key(3, 1)),
		begin(key(7, 1), key(9, 1)),
	}
	expectBelow(t, l, key(1, 0), key(2, 1), key(3, 1), key(4, 1), key(5, 1), key(2, 2), key(6, 1))
	expectBelow(t, l, key(2, 1), key(3, 1), key(6, 1))
	expectBelow(t, l, key(3, 1), key(6, 1))
	expectBelow(t, l, key(4, 1), key(5, 1))
	expectBelow(t, l, key(8, 0), key(9, 1), key(7, 1))
	expectBelow(t, l, key(9, 1), key(7, 1))
	for _, k := range []api.Key{{}, key(1, 1), key(2, 0), key(2, 2), key(5, 1), key(6, 1), key(7, 1), key(10, 1)} {
		expectBelow(t, l, k)
	}
	expectBelow(t, nil, key(1, 0))
	expectBelow(t, []api.Event{}, api.Key{})
}

// 25.2: whoever was begun again is told once, where it was begun first below that owner.
func TestBelowOnce(t *testing.T) {
	l := []api.Event{
		begin(key(3, 1), key(7, 0)),
		begin(key(2, 1), key(1, 0)),
		begin(key(2, 1), key(1, 0)),
		begin(key(3, 1), key(2, 1)),
		begin(key(2, 1), key(3, 1)),
		begin(key(4, 1), key(1, 0)),
		begin(key(3, 1), key(1, 0)),
		begin(key(4, 1), key(3, 1)),
	}
	expectBelow(t, l, key(1, 0), key(2, 1), key(3, 1), key(4, 1))
	expectBelow(t, l, key(7, 0), key(3, 1), key(2, 1), key(4, 1))
	expectBelow(t, l[1:], key(7, 0))
}

// 25.2: only whoever was begun ahead has others below, and only from its beginning below that owner on.
func TestBelowAhead(t *testing.T) {
	l := []api.Event{
		begin(key(4, 1), key(3, 1)),
		begin(key(3, 1), key(2, 1)),
		begin(key(2, 1), key(1, 0)),
		begin(key(5, 1), key(2, 1)),
		begin(key(6, 1), key(3, 1)),
	}
	expectBelow(t, l, key(1, 0), key(2, 1), key(5, 1))
	// The owner itself need not have been begun.
	expectBelow(t, l, key(2, 1), key(3, 1), key(5, 1), key(6, 1))
	expectBelow(t, l, key(3, 1), key(4, 1), key(6, 1))
}

// 25.2: an owner is not below itself, whoever began it; those below it are.
func TestBelowNotItself(t *testing.T) {
	expectBelow(t, []api.Event{begin(key(1, 1), key(1, 1))}, key(1, 1))
	expectBelow(t, []api.Event{begin(api.Key{}, api.Key{})}, api.Key{})
	expectBelow(t, []api.Event{begin(api.Key{}, api.Key{}), begin(key(1, 1), api.Key{}), begin(api.Key{}, key(1, 1))}, api.Key{}, key(1, 1))
	l := []api.Event{
		begin(key(1, 1), key(1, 1)),
		begin(key(2, 1), key(1, 1)),
		begin(key(1, 1), key(2, 1)),
		begin(key(3, 1), key(1, 1)),
	}
	expectBelow(t, l, key(1, 1), key(2, 1), key(3, 1))
	expectBelow(t, l, key(2, 1), key(1, 1), key(3, 1))
	expectBelow(t, l, key(3, 1))
}

// 25.2: no event of another kind tells of a beginning.
func TestBelowOfEachKind(t *testing.T) {
	for _, kind := range kinds() {
		other := begin(key(2, 1), key(1, 0))
		other.Kind = kind
		l := []api.Event{other, begin(key(3, 1), key(2, 1)), begin(key(4, 1), key(1, 0))}
		if kind == started {
			expectBelow(t, l, key(1, 0), key(2, 1), key(3, 1), key(4, 1))
		} else {
			expectBelow(t, l, key(1, 0), key(4, 1))
		}
		// What happens behind, even an end or a crash, takes nobody away.
		other.Key, other.Parent = key(4, 1), api.Key{}
		expectBelow(t, []api.Event{l[2], other, begin(key(5, 1), key(4, 1))}, key(1, 0), key(4, 1), key(5, 1))
	}
}

// 25.2: a parent is another one, if any of its parts is; under which root, where and when one was begun does not count.
func TestBelowOfEachPart(t *testing.T) {
	parent := full(0).Parent
	for place := range places(new(api.Event)) {
		for _, n := range numbers() {
			e := full(started)
			*places(&e)[place] = n
			l := []api.Event{e, begin(key(1, 1), full(0).Key)}
			switch {
			case place >= 3 && place < 7:
				expectBelow(t, l, parent, e.Key)
			case place >= 7 && place < 11:
				expectBelow(t, l, parent)
				expectBelow(t, l, e.Parent, e.Key, key(1, 1))
			default:
				expectBelow(t, l, parent, e.Key, key(1, 1))
			}
		}
	}
}

// All that were begun are below the first one, however deep, or however many beside each other.
func TestBelowOfMany(t *testing.T) {
	const many = 20000
	var deep, wide []api.Event
	var want []api.Key
	for n := range many {
		deep = append(deep, begin(key(n+1, 1), key(n, 1)))
		wide = append(wide, begin(key(n+1, 1), key(0, 1)))
		want = append(want, key(n+1, 1))
	}
	expectBelow(t, deep, key(0, 1), want...)
	expectBelow(t, wide, key(0, 1), want...)
	expectBelow(t, deep, key(many/2, 1), want[many/2:]...)
	expectBelow(t, wide, key(many/2, 1))
}

// 25.1 and 25.2: all is told as lists that are gone through tell it, of whatever happened.
func TestAtRandom(t *testing.T) {
	for seed := range 400 {
		r := rand.New(rand.NewSource(int64(seed)))
		names := 2 + r.Intn(8)
		var l []api.Event
		want := ""
		for range r.Intn(60) {
			e := random(r, names)
			if r.Intn(2) == 0 {
				e.Kind = started
			}
			l = append(l, e)
			want += told(e) + "\n"
		}
		expectText(t, l, want)
		for seq := range names + 1 {
			for att := range 2 {
				k := key(seq, att)
				expectBelow(t, l, k, below(l, k)...)
				var of []api.Event
				for _, e := range l {
					if e.Key == k && e.Kind != crashed {
						of = append(of, e)
					}
				}
				expectEvents(t, "key", event.Key(l, k), of...)
			}
		}
	}
}

// 25.3: events of all kinds together are all, each of one kind alone.
func TestAllKinds(t *testing.T) {
	for seed := range 100 {
		r := rand.New(rand.NewSource(int64(seed)))
		var l, all []api.Event
		for n := range r.Intn(80) {
			e := random(r, 5)
			e.Real = n
			l = append(l, e)
		}
		for kind := range 13 {
			all = append(all, event.Of(l, kind)...)
		}
		slices.SortFunc(all, func(a, b api.Event) int { return a.Real - b.Real })
		expectEvents(t, "all", all, l...)
	}
}

// tree is that so many were begun, each by one that was begun ahead, or by nobody that is told; some again, as behind a crash.
func tree(r *rand.Rand, size int) []api.Event {
	l := []api.Event{{Kind: issued, Key: key(0, 0)}}
	for n := range size {
		e := begin(key(n+1, 1), l[r.Intn(len(l))].Key)
		if r.Intn(9) == 0 {
			e.Parent = key(1000+n, 0)
		}
		l = append(l, e)
		if r.Intn(6) == 0 {
			l = append(l, api.Event{Kind: crashed, Node: r.Intn(2)}, l[1+r.Intn(len(l)-1)])
		}
	}
	return l
}

// 25.3: what is below one who is below another is below that, if nobody had anyone below ahead of its own beginning.
func TestBelowOfBelow(t *testing.T) {
	for seed := range 100 {
		l := tree(rand.New(rand.NewSource(int64(seed))), 30)
		for n := range 31 {
			k := key(n, min(n, 1))
			under := event.Below(l, k)
			for _, b := range under {
				for _, c := range event.Below(l, b) {
					if !slices.Contains(under, c) {
						t.Fatalf("%v: %v is below %v, and that below %v", l, c, b, k)
					}
				}
			}
		}
	}
}

// R4: what is handed in is not changed, and nothing that lies behind it is read.
func TestMemory(t *testing.T) {
	memory := []api.Event{begin(key(2, 1), key(1, 0)), begin(key(3, 1), key(2, 1)), begin(key(4, 1), key(1, 0)), begin(key(5, 1), key(1, 0))}
	before := slices.Clone(memory)
	l := memory[:2]
	expectText(t, l, told(memory[0])+"\n"+told(memory[1])+"\n")
	expectEvents(t, "of", event.Of(l, started), before[:2]...)
	expectEvents(t, "key", event.Key(l, key(3, 1)), before[1])
	expectEvents(t, "key", event.Key(l, key(4, 1)))
	expectBelow(t, l, key(1, 0), key(2, 1), key(3, 1))
	expectEvents(t, "memory", memory, before...)
}

// Each answer is new: changing one changes neither what was handed in nor another answer.
func TestAnswersShareNothing(t *testing.T) {
	l := []api.Event{begin(key(2, 1), key(1, 0)), begin(key(3, 1), key(2, 1)), begin(key(3, 1), key(1, 0))}
	before := slices.Clone(l)
	of, again := event.Of(l, started), event.Of(l, started)
	attempt, keys := event.Key(l, key(3, 1)), event.Below(l, key(1, 0))
	for _, answer := range [][]api.Event{of, attempt} {
		for n := range answer {
			answer[n] = full(0)
		}
		_ = append(answer, full(0))
	}
	for n := range keys {
		keys[n] = key(99, 9)
	}
	expectEvents(t, "list", l, before...)
	expectEvents(t, "answer", again, before...)
	expectEvents(t, "again", event.Of(l, started), before...)
	expectEvents(t, "key", event.Key(l, key(3, 1)), before[1:]...)
	expectBelow(t, l, key(1, 0), key(2, 1), key(3, 1))
}

// The chapter's example.
func TestExample(t *testing.T) {
	expectLine(t, api.Event{Kind: crashed, Real: 7, Node: 2, Local: 9}, "7 crashed at 2 9")
}
