package code_test

import (
	"math"
	"strings"
	"testing"

	"hourglass/api"
	"hourglass/code"
)

// listed are the names in the chapter's order.
var listed = strings.Split("OK, CANCELLED, UNKNOWN, INVALID_ARGUMENT, DEADLINE_EXCEEDED, NOT_FOUND, ALREADY_EXISTS, PERMISSION_DENIED, RESOURCE_EXHAUSTED, FAILED_PRECONDITION, ABORTED, OUT_OF_RANGE, UNIMPLEMENTED, INTERNAL, UNAVAILABLE, DATA_LOSS, UNAUTHENTICATED", ", ")

// saying are all codes, from the one that says least to the one that says most.
var saying = []int{0, 14, 8, 2, 3, 5, 6, 7, 9, 10, 11, 12, 13, 15, 16, 4, 1}

// strange are no codes.
var strange = []int{-1, -2, -14, -16, -17, 17, 18, 31, 255, 256, 264, 270, math.MaxInt32 + 1, math.MinInt32, math.MinInt, math.MinInt + 1, math.MaxInt - 1, math.MaxInt}

// numbers are all codes, those around them, and those that are far off.
func numbers() []int {
	l := append([]int(nil), strange...)
	for c := -20; c <= 40; c++ {
		l = append(l, c)
	}
	return l
}

// 5.1: the bounds of what is right.
func TestRight(t *testing.T) {
	for _, c := range numbers() {
		if code.Right(c) != (c >= 0 && c <= 16) {
			t.Errorf("Right(%d) = %v", c, code.Right(c))
		}
	}
}

// 5.1: what is no code is Unknown.
func TestClean(t *testing.T) {
	for _, c := range numbers() {
		want := c
		if c < 0 || c > 16 {
			want = 2
		}
		if got := code.Clean(c); got != want {
			t.Errorf("Clean(%d) = %d, not %d", c, got, want)
		}
	}
}

// 5.1: each code's name, both ways round; api's codes are those of these names.
func TestNames(t *testing.T) {
	if len(listed) != 17 {
		t.Fatal(len(listed))
	}
	for c, name := range listed {
		if got := code.Text(c); got != name {
			t.Errorf("Text(%d) = %q, not %q", c, got, name)
		}
		if got, err := code.Parse(name); got != c || err != api.OK {
			t.Errorf("Parse(%q) = %d, %v, not %d", name, got, err, c)
		}
	}
	for c, name := range map[int]string{api.Done: "OK", api.Cancelled: "CANCELLED", api.Unknown: "UNKNOWN", api.Invalid: "INVALID_ARGUMENT", api.Deadline: "DEADLINE_EXCEEDED",
		api.Exhausted: "RESOURCE_EXHAUSTED", api.Internal: "INTERNAL", api.Unavailable: "UNAVAILABLE"} {
		if got := code.Text(c); got != name {
			t.Errorf("Text(%d) = %q, not %q", c, got, name)
		}
	}
	for _, c := range strange {
		if got := code.Text(c); got != "UNKNOWN" {
			t.Errorf("Text(%d) = %q", c, got)
		}
	}
}

// notNames are near a name, but none.
func notNames(name string) []string {
	return []string{
		strings.ToLower(name), name[:1] + strings.ToLower(name[1:]), name + " ", " " + name, name + "\n", name + "\x00", name + name,
		name + "S", name[1:], name[:len(name)-1], strings.ReplaceAll(name+"_", "_", " "), name + "_", "_" + name, `"` + name + `"`, "StatusCode." + name,
	}
}

// 5.1: what is no name.
func TestParseWrong(t *testing.T) {
	wrong := []string{"", " ", "0", "1", "2", "14", "16", "-1", "CANCELED", "DEADLINE", "EXHAUSTED", "RESOURCE", "ARGUMENT", "INVALID", "DONE", "?", "ok", "Ok", "\xff", "ÖK", "OK\u0301",
		strings.Join(listed, ", "), strings.Join(listed, ""), strings.Repeat("UNKNOWN", 10000)}
	for _, name := range listed {
		wrong = append(wrong, notNames(name)...)
	}
	for _, s := range wrong {
		if got, err := code.Parse(s); got != api.Unknown || err != api.ErrText {
			t.Errorf("Parse(%.60q) = %d, %v", s, got, err)
		}
	}
}

// 5.1: who may try again; what is no code may not, as Unknown may not.
func TestAgain(t *testing.T) {
	for _, c := range numbers() {
		if code.Again(c) != (c == 14 || c == 8) {
			t.Errorf("Again(%d) = %v", c, code.Again(c))
		}
	}
}

// modelJoin is what 5.2 says, by the places in the list of what says more.
func modelJoin(a, b int) int {
	said := 0
	for _, c := range saying {
		for _, x := range []int{a, b} {
			if x < 0 || x > 16 {
				x = 2
			}
			if x == c {
				said = c
			}
		}
	}
	return said
}

// 5.2: of all codes, and of what is none.
func TestJoin(t *testing.T) {
	for _, a := range numbers() {
		for _, b := range numbers() {
			if got := code.Join(a, b); got != modelJoin(a, b) {
				t.Errorf("Join(%d, %d) = %d, not %d", a, b, got, modelJoin(a, b))
			}
		}
	}
}

// 5.2: written out, with the chapter's example.
func TestJoinWritten(t *testing.T) {
	for _, x := range [][3]int{
		{api.Unavailable, api.Internal, api.Internal}, {api.Internal, api.Unavailable, api.Internal},
		{api.Done, api.Done, api.Done}, {api.Done, api.Unavailable, api.Unavailable}, {api.Unavailable, api.Exhausted, api.Exhausted},
		{api.Exhausted, api.Unknown, api.Unknown}, {api.Unknown, api.Invalid, api.Invalid}, {api.Invalid, 5, 5}, {16, api.Deadline, api.Deadline},
		{api.Deadline, api.Cancelled, api.Cancelled}, {16, api.Cancelled, api.Cancelled}, {15, 16, 16}, {api.Internal, 15, 15}, {api.Internal, 12, api.Internal},
		{-1, api.Done, api.Unknown}, {17, 17, api.Unknown}, {17, api.Exhausted, api.Unknown}, {-5, api.Invalid, api.Invalid}, {99, -99, api.Unknown},
	} {
		if got := code.Join(x[0], x[1]); got != x[2] {
			t.Errorf("Join(%d, %d) = %d, not %d", x[0], x[1], got, x[2])
		}
	}
}

// 5.2: of each error that there is, and of those that there are not.
func TestOf(t *testing.T) {
	want := map[api.Errno]int{
		api.OK: 0, api.ErrNil: 14, api.ErrArg: 3, api.ErrSize: 13, api.ErrSum: 13, api.ErrForm: 13,
		api.ErrFull: 8, api.ErrNone: 14, api.ErrTwice: 13, api.ErrKind: 3, api.ErrText: 13, api.ErrLate: 4,
	}
	for e, c := range want {
		if got := code.Of(e); got != c {
			t.Errorf("Of(%v) = %d, not %d", e, got, c)
		}
	}
	for _, c := range numbers() {
		e := api.Errno(c)
		if _, known := want[e]; !known && code.Of(e) != api.Internal {
			t.Errorf("Of(%d) = %d", c, code.Of(e))
		}
	}
}

// 5.3: the same the other way round, and in other brackets; OK changes nothing, nor does what was joined already.
func TestJoinFollows(t *testing.T) {
	for _, a := range numbers() {
		if code.Join(a, api.Done) != code.Clean(a) || code.Join(a, a) != code.Clean(a) {
			t.Errorf("%d with OK %d, with itself %d", a, code.Join(a, api.Done), code.Join(a, a))
		}
		for _, b := range numbers() {
			if code.Join(a, b) != code.Join(b, a) {
				t.Errorf("Join(%d, %d) = %d, the other way round %d", a, b, code.Join(a, b), code.Join(b, a))
			}
			for _, c := range numbers() {
				if l, r := code.Join(code.Join(a, b), c), code.Join(a, code.Join(b, c)); l != r {
					t.Errorf("%d, %d, %d: %d, in other brackets %d", a, b, c, l, r)
				}
			}
		}
	}
}

// 5.3: who tries again says less than who doesn't, but for OK.
func TestAgainSaysLess(t *testing.T) {
	for a := range 17 {
		for b := 1; b < 17; b++ {
			if code.Again(a) && !code.Again(b) && code.Join(a, b) != b {
				t.Errorf("Join(%d, %d) = %d", a, b, code.Join(a, b))
			}
		}
		if code.Again(a) && code.Join(a, api.Done) != a {
			t.Errorf("Join(%d, OK) = %d", a, code.Join(a, api.Done))
		}
	}
}
