package fault_test

import (
	"errors"
	"math"
	"slices"
	"strconv"
	"strings"
	"testing"

	"hourglass/api"
	"hourglass/code"
	"hourglass/fault"
)

// nodes are nodes that there may be, and numbers that are far off.
var nodes = []int{0, 1, 5, 9, 10, 63, 64, 1000, -1, -10, math.MaxInt32 + 1, math.MinInt32, math.MaxInt, math.MinInt}

// codes are all codes, those around them, and those that are far off.
func codes() []int {
	l := []int{99, 256, 258, 260, -99, math.MaxInt32 + 1, math.MaxInt, math.MinInt, math.MinInt + 4}
	for c := -3; c <= 20; c++ {
		l = append(l, c)
	}
	return l
}

// other is an error of another kind, about one, with a text of its own.
type other struct {
	of error
}

func (o other) Error() string { return "other (" + fault.Text(o.of) + ")" }
func (o other) Unwrap() error { return o.of }

// list is an error of which two can't be held against each other.
type list []int

func (l list) Error() string { return "list of " + strconv.Itoa(len(l)) }

// asFault tells the outer fault of an error.
func asFault(t *testing.T, e error) *fault.Fault {
	t.Helper()
	f, is := e.(*fault.Fault)
	if !is || f == nil {
		t.Fatalf("%#v is no fault", e)
	}
	return f
}

// 6.1: a status says its code's name; of what is no code that of Unknown.
func TestStatus(t *testing.T) {
	for _, c := range codes() {
		if got := fault.Status(c).Error(); got != code.Text(c) || got == "" {
			t.Errorf("Status(%d) says %q, not %q", c, got, code.Text(c))
		}
	}
	for s, want := range map[fault.Status]string{0: "OK", 1: "CANCELLED", 4: "DEADLINE_EXCEEDED", 14: "UNAVAILABLE", 16: "UNAUTHENTICATED", 17: "UNKNOWN", -1: "UNKNOWN"} {
		if s.Error() != want {
			t.Errorf("Status(%d) says %q, not %q", s, s.Error(), want)
		}
	}
}

// 6.1: what faults say and are about, those made by hand too.
func TestFault(t *testing.T) {
	plain := errors.New("plain")
	deep := &fault.Fault{Node: 2, Of: fault.Status(8)}
	for _, x := range []struct {
		f    *fault.Fault
		text string
	}{
		{nil, ""},
		{&fault.Fault{}, "node 0"},
		{&fault.Fault{Node: 7}, "node 7"},
		{&fault.Fault{Node: -7}, "node -7"},
		{&fault.Fault{Node: math.MinInt}, "node -9223372036854775808"},
		{&fault.Fault{Node: math.MaxInt, Of: plain}, "node 9223372036854775807: plain"},
		{&fault.Fault{Node: 3, Of: errors.New("")}, "node 3: "},
		{&fault.Fault{Node: 3, Of: fault.Status(0)}, "node 3: OK"},
		{&fault.Fault{Node: 3, Of: fault.Status(77)}, "node 3: UNKNOWN"},
		{&fault.Fault{Node: -3, Of: fault.Status(13)}, "node -3: INTERNAL"},
		{&fault.Fault{Node: 1, Of: deep}, "node 1: node 2: RESOURCE_EXHAUSTED"},
		{&fault.Fault{Node: 1, Of: &fault.Fault{Node: 2}}, "node 1: node 2"},
		{&fault.Fault{Node: 1, Of: (*fault.Fault)(nil)}, "node 1: "},
		{&fault.Fault{Node: 1, Of: other{deep}}, "node 1: other (node 2: RESOURCE_EXHAUSTED)"},
		{&fault.Fault{Node: 1, Of: other{nil}}, "node 1: other ()"},
		{&fault.Fault{Node: 1, Of: list{1, 2}}, "node 1: list of 2"},
		{&fault.Fault{Node: 1, Of: &fault.Fault{Node: 0, Of: other{other{deep}}}}, "node 1: node 0: other (other (node 2: RESOURCE_EXHAUSTED))"},
	} {
		if got := x.f.Error(); got != x.text {
			t.Errorf("%#v says %q, not %q", x.f, got, x.text)
		}
		if got := fault.Text(x.f); got != x.text {
			t.Errorf("Text of %#v is %q, not %q", x.f, got, x.text)
		}
	}
	if (*fault.Fault)(nil).Unwrap() != nil || (&fault.Fault{Node: 1}).Unwrap() != nil {
		t.Error("a fault about nothing has something within")
	}
	for _, of := range []error{plain, deep, fault.Status(0), fault.Status(4), other{plain}} {
		if got := (&fault.Fault{Node: 1, Of: of}).Unwrap(); got != of {
			t.Errorf("within is %v, not %v", got, of)
		}
	}
}

// 6.1: the fault of each code at each node; none of OK.
func TestNew(t *testing.T) {
	for _, c := range codes() {
		for _, node := range nodes {
			e := fault.New(c, node)
			if c == 0 {
				if e != nil {
					t.Errorf("New(OK, %d) = %v", node, e)
				}
				continue
			}
			want := fault.Status(code.Clean(c))
			if f := asFault(t, e); f.Node != node || f.Of != error(want) || f.Unwrap() != error(want) {
				t.Errorf("New(%d, %d) = %#v", c, node, f)
			}
			if got := fault.Text(e); got != "node "+strconv.Itoa(node)+": "+want.Error() || got != e.Error() {
				t.Errorf("New(%d, %d) says %q", c, node, got)
			}
			if !fault.Is(e, int(want)) || fault.Code(e) != int(want) || !slices.Equal(fault.Path(e), []int{node}) {
				t.Errorf("of New(%d, %d): code %d, path %v", c, node, fault.Code(e), fault.Path(e))
			}
		}
	}
}

// 6.1: a fault about whatever error there is; none of none.
func TestWrap(t *testing.T) {
	for _, node := range nodes {
		if e := fault.Wrap(nil, node); e != nil {
			t.Errorf("Wrap(nil, %d) = %v", node, e)
		}
		if e := fault.Wrap(fault.New(api.Done, 1), node); e != nil {
			t.Errorf("Wrap(New(OK, 1), %d) = %v", node, e)
		}
		for _, of := range []error{fault.New(4, 1), fault.New(17, -1), fault.Status(0), fault.Status(5), errors.New("plain"), &fault.Fault{}, other{nil}} {
			said := of.Error()
			if f := asFault(t, fault.Wrap(of, node)); f.Node != node || f.Of != of || f.Error() != "node "+strconv.Itoa(node)+": "+said {
				t.Errorf("Wrap(%v, %d) = %v", of, node, f)
			}
			if of.Error() != said {
				t.Errorf("%q says %q now", said, of.Error())
			}
		}
	}
}

// 6.1: one error wrapped twice: neither knows of the other.
func TestWrapTwice(t *testing.T) {
	e := fault.New(api.Internal, 1)
	a, b := fault.Wrap(e, 2), fault.Wrap(e, 3)
	asFault(t, b).Node = 4
	if fault.Text(a) != "node 2: node 1: INTERNAL" || fault.Text(b) != "node 4: node 1: INTERNAL" || fault.Text(e) != "node 1: INTERNAL" {
		t.Error(fault.Text(a), fault.Text(b), fault.Text(e))
	}
	p := fault.Path(a)
	p[0], p[1] = 8, 9
	if !slices.Equal(fault.Path(a), []int{2, 1}) {
		t.Error(fault.Path(a))
	}
}

// 6.1: of no error.
func TestNone(t *testing.T) {
	if fault.Code(nil) != api.Done || len(fault.Path(nil)) != 0 || fault.Text(nil) != "" {
		t.Error(fault.Code(nil), fault.Path(nil), fault.Text(nil))
	}
	for _, c := range codes() {
		if fault.Is(nil, c) != (c == 0) {
			t.Errorf("Is(nil, %d) = %v", c, fault.Is(nil, c))
		}
	}
}

// 6.1: the code of the status within: of statuses themselves, of those within others, and where there is none.
func TestCode(t *testing.T) {
	var none *fault.Fault
	for _, x := range []struct {
		e    error
		code int
	}{
		{fault.Status(4), 4},
		{fault.Status(0), 0},
		{fault.Wrap(fault.Status(0), 1), 0},
		{fault.Wrap(fault.Status(14), 1), 14},
		{fault.New(1, 2), 1},
		{fault.New(-1, 2), 2},
		{fault.Wrap(other{fault.New(8, 3)}, 2), 8},
		{other{fault.Status(16)}, 16},
		{&fault.Fault{}, 2},
		{&fault.Fault{Node: 4}, 2},
		{fault.Wrap(&fault.Fault{Node: 4}, 3), 2},
		{none, 2},
		{fault.Wrap(none, 3), 2},
		{errors.New("OK"), 2},
		{fault.Wrap(errors.New("CANCELLED"), 1), 2},
		{fault.Wrap(list{4}, 1), 2},
	} {
		if got := fault.Code(x.e); got != x.code {
			t.Errorf("Code(%v) = %d, not %d", x.e, got, x.code)
		}
	}
}

// 6.1: an error has the code of its status and no other; OK is no error's.
func TestIs(t *testing.T) {
	for c := 1; c <= 16; c++ {
		for _, e := range []error{fault.Status(c), fault.New(c, 3), fault.Wrap(fault.New(c, c), 2), fault.Wrap(fault.Status(c), 1), fault.Wrap(other{fault.New(c, 3)}, 0)} {
			for _, d := range codes() {
				if got := fault.Is(e, d); got != (c == d) {
					t.Errorf("Is(%v, %d) = %v", e, d, got)
				}
			}
			if !errors.Is(e, fault.Status(c)) || errors.Is(e, fault.Status(c-1)) {
				t.Errorf("errors.Is finds no %d, or finds %d, in %v", c, c-1, e)
			}
		}
	}
	for _, e := range []error{fault.Status(0), fault.Wrap(fault.Status(0), 1), &fault.Fault{}, (*fault.Fault)(nil), errors.New("OK"), fault.Wrap(list{0}, 0)} {
		for _, d := range codes() {
			if fault.Is(e, d) {
				t.Errorf("Is(%v, %d)", e, d)
			}
		}
	}
}

// 6.1: the nodes from the outer one on.
func TestPath(t *testing.T) {
	var none *fault.Fault
	for _, x := range []struct {
		e    error
		path []int
	}{
		{fault.Status(4), nil},
		{errors.New("node 3: node 4: ABORTED"), nil},
		{none, nil},
		{fault.New(4, 7), []int{7}},
		{fault.Wrap(fault.Wrap(fault.New(4, 7), 2), 0), []int{0, 2, 7}},
		{fault.Wrap(fault.Wrap(fault.New(4, 3), 3), 3), []int{3, 3, 3}},
		{fault.Wrap(fault.Wrap(fault.New(4, -7), math.MinInt), math.MaxInt), []int{math.MaxInt, math.MinInt, -7}},
		{fault.Wrap(errors.New("plain"), 5), []int{5}},
		{fault.Wrap(list{9}, 5), []int{5}},
		{fault.Wrap(none, 5), []int{5}},
		{&fault.Fault{Node: 6}, []int{6}},
		{fault.Wrap(&fault.Fault{Node: 6}, 5), []int{5, 6}},
		{fault.Wrap(other{other{fault.New(1, 2)}}, 1), []int{1, 2}},
		{other{fault.New(1, 2)}, []int{2}},
	} {
		if got := fault.Path(x.e); !slices.Equal(got, x.path) {
			t.Errorf("Path(%v) = %v, not %v", x.e, got, x.path)
		}
	}
}

// 6.1: the library's errors.As finds the outer fault, and the status.
func TestAs(t *testing.T) {
	e := fault.Wrap(fault.New(api.Unavailable, 5), 3)
	var f *fault.Fault
	if !errors.As(e, &f) || f.Node != 3 || f != asFault(t, e) {
		t.Errorf("%v", f)
	}
	if !errors.As(f.Unwrap(), &f) || f.Node != 5 {
		t.Errorf("%v", f)
	}
	var s fault.Status
	if !errors.As(e, &s) || s != 14 {
		t.Errorf("%d", s)
	}
	if fault.Text(e) != "node 3: node 5: UNAVAILABLE" {
		t.Error(fault.Text(e))
	}
}

// 6.2: through however many nodes an error goes, its code stays, and its path grows by one each.
func TestThrough(t *testing.T) {
	for _, c := range codes() {
		if c == 0 {
			continue
		}
		e := fault.New(c, 40)
		was, path, said := fault.Code(e), []int{40}, "node 40: "+code.Text(c)
		for i := range 30 {
			node := nodes[(i*5+c&7)%len(nodes)]
			e = fault.Wrap(e, node)
			path = append([]int{node}, path...)
			said = "node " + strconv.Itoa(node) + ": " + said
			if fault.Code(e) != was || !fault.Is(e, was) || !slices.Equal(fault.Path(e), path) || fault.Text(e) != said {
				t.Fatalf("of %d, behind %d nodes: %d, %v, %q", c, i+1, fault.Code(e), fault.Path(e), fault.Text(e))
			}
		}
	}
}

// 6.2: through very many nodes; what they say takes no more time than there is to say.
func TestThroughMany(t *testing.T) {
	const many = 300000
	e := fault.New(api.Exhausted, 0)
	for i := 1; i < many; i++ {
		e = fault.Wrap(e, i%10)
	}
	path := fault.Path(e)
	if fault.Code(e) != api.Exhausted || !fault.Is(e, api.Exhausted) || fault.Is(e, api.Internal) || len(path) != many || path[0] != (many-1)%10 || path[many-1] != 0 {
		t.Errorf("code %d, path of %d", fault.Code(e), len(path))
	}
	text := fault.Text(e)
	if len(text) != many*len("node 0: ")+len("RESOURCE_EXHAUSTED") || !strings.HasPrefix(text, "node 9: node 8: ") || !strings.HasSuffix(text, "node 1: node 0: RESOURCE_EXHAUSTED") {
		t.Errorf("text of %d bytes", len(text))
	}
}
