package script_test

import (
	"slices"
	"strconv"
	"strings"
	"testing"

	"hourglass/api"
	"hourglass/mesh"
	"hourglass/script"
)

// expectRead asks that these steps be read, and no line be wrong.
func expectRead(t *testing.T, s string, want ...mesh.Step) {
	t.Helper()
	if got, at, e := script.Read(s); e != api.OK || at != 0 || !slices.Equal(got, want) {
		t.Errorf("Read(%q) = %v, %d, %v, not %v", s, got, at, e, want)
	}
}

// expectLine asks that this line be the first one that is wrong.
func expectLine(t *testing.T, s string, line int, want api.Errno) {
	t.Helper()
	if got, at, e := script.Read(s); e != want || at != line || len(got) != 0 {
		t.Errorf("Read(%q) = %v, %d, %v, not %d, %v", s, got, at, e, line, want)
	}
}

// many are so many steps, each another one, and their lines.
func many(n int) ([]mesh.Step, string) {
	var l []mesh.Step
	s := ""
	for i := range n {
		l = append(l, step(tick, i))
		s += "tick " + strconv.Itoa(i) + "\n"
	}
	return l, s
}

// 30.2: of each line a step, in order, with a line feed behind the last one or without.
func TestRead(t *testing.T) {
	expectRead(t, "")
	expectRead(t, "tick 1", step(tick, 1))
	expectRead(t, "tick 1\n", step(tick, 1))
	expectRead(t, "tick 1\ntick 2", step(tick, 1), step(tick, 2))
	expectRead(t, "tick 2\ntick 1\n", step(tick, 2), step(tick, 1))
	expectRead(t, "tick 1\ntick 1\ntick 1\n", step(tick, 1), step(tick, 1), step(tick, 1))
	expectRead(t, "issue 0 1 2 100\ndeliver 0\nrun 1 0\nrun 1 0\ndeliver 0", step(issue, 0, 1, 2, 100), step(deliver), step(run, 1), step(run, 1), step(deliver))
	s, want := "", []mesh.Step{}
	for _, k := range kinds() {
		for _, x := range []mesh.Step{step(k), full(k), with(step(k), has()[k-1]-1, most), with(full(k), has()[k-1]-1, -most)} {
			s += told(x) + "\n"
			want = append(want, x)
			expectRead(t, told(x), x)
			expectRead(t, s, want...)
			expectRead(t, strings.TrimSuffix(s, "\n"), want...)
		}
	}
}

// 30.2: lines that are empty, or begin with #, say nothing, whatever they say behind that.
func TestReadNothing(t *testing.T) {
	for _, s := range []string{
		"\n", "\n\n\n", "#", "##", "#\n", "# tick 1", "#tick 1\n", "# tock 1\n\n#\n", "#\x00\xff\r\t ", "# \n#\n", strings.Repeat("\n", 10000), "#" + strings.Repeat("x", 10000), strings.Repeat("#\n", 10000),
	} {
		expectRead(t, s)
		expectRead(t, s+"\ntick 1", step(tick, 1))
		expectRead(t, s+"\ntick 1\n", step(tick, 1))
		expectRead(t, "tick 1\n"+s, step(tick, 1))
		expectRead(t, "tick 1\n\n"+s+"\n\ntick 2\n"+s, step(tick, 1), step(tick, 2))
	}
	expectRead(t, "# a root\nissue 0 1 0 100\n\ndeliver 0\n# nobody hears\ndrop 0\n\n", step(issue, 0, 1, 0, 100), step(deliver), step(drop))
}

// 30.2: a line is wrong wherever it stands, and the lines behind it do not matter.
func TestReadWrong(t *testing.T) {
	for _, l := range wrongTexts() {
		if strings.Contains(l, "\n") {
			continue
		}
		expectLine(t, l, 1, api.ErrText)
		expectLine(t, l+"\n", 1, api.ErrText)
		expectLine(t, "tick 1\n"+l, 2, api.ErrText)
		expectLine(t, l+"\ntick 1\n", 1, api.ErrText)
		expectLine(t, "\n\n# x\ntick 1\n\n"+l+"\ntock\n", 6, api.ErrText)
		expectLine(t, strings.Repeat("\n", 1000)+l+"\n"+l, 1001, api.ErrText)
	}
	for _, n := range noNumbers() {
		expectLine(t, "tick 1\ntick "+n+"\ntick 1", 2, api.ErrText)
		expectLine(t, "tick 1\nissue 1 1 1 "+n+"\ntick 1", 2, api.ErrText)
	}
	// The first one is told, of several.
	expectLine(t, "tick 1\ntock 1\ntick\ntock 1\n", 2, api.ErrText)
	// A line feed alone ends a line.
	expectLine(t, "tick 1\rtick 2\n", 1, api.ErrText)
	expectLine(t, "tick 1\r\ntick 2\r\n", 1, api.ErrText)
	expectLine(t, "tick 1\n\r\ntick 2\n", 2, api.ErrText)
	expectLine(t, "tick 1\vtick 2", 1, api.ErrText)
	expectLine(t, "tick 1\u2028tick 2", 1, api.ErrText)
	expectLine(t, "tick 1; tick 2", 1, api.ErrText)
}

// 30.2: there are 400 steps at the most; behind them lines that say nothing may stand.
func TestReadFull(t *testing.T) {
	for _, n := range []int{1, 2, mostSteps - 1, mostSteps} {
		want, s := many(n)
		expectRead(t, s, want...)
		expectRead(t, strings.TrimSuffix(s, "\n"), want...)
		expectRead(t, s+"\n\n# x\n#", want...)
		expectRead(t, "#\n\n"+strings.ReplaceAll(s, "\n", "\n\n# tick 1\n"), want...)
	}
	want, s := many(mostSteps)
	expectRead(t, s+strings.Repeat("#\n", 1000), want...)
	for _, x := range []string{"tick 1", "tick 1\n", "tick 1\ntick 2\n", "tock 1", "no step\n", " ", "tick", "tick 01\n", "\r", " # x", "tick 1\ntock", "tock\ntick 1"} {
		expectLine(t, s+x, mostSteps+1, api.ErrFull)
		expectLine(t, s+"\n#\n\n"+x, mostSteps+4, api.ErrFull)
		expectLine(t, "\n#\n"+s+x, mostSteps+3, api.ErrFull)
	}
	for _, n := range []int{mostSteps + 1, mostSteps + 2, 1000} {
		_, s := many(n)
		expectLine(t, s, mostSteps+1, api.ErrFull)
	}
	// Ahead of the last step there is room, so that a wrong line is none but wrong.
	_, s = many(mostSteps - 1)
	expectLine(t, s+"tock 1\n", mostSteps, api.ErrText)
	expectLine(t, s+"\ntock 1\ntick 1\ntick 1\n", mostSteps+1, api.ErrText)
	expectLine(t, "tock 1\n"+s+s, 1, api.ErrText)
	expectRead(t, s+"tick 399\n", want...)
}

// R4, R5: what was read changes nothing of what is read next, even if it is changed.
func TestReadAgain(t *testing.T) {
	want, s := many(20)
	for range 3 {
		got, at, e := script.Read(s)
		if e != api.OK || at != 0 || !slices.Equal(got, want) {
			t.Fatalf("Read(%q) = %v, %d, %v", s, got, at, e)
		}
		for i := range got {
			got[i] = step(crash, 1, 2, 3, 4)
		}
		_ = append(got, got...)
		expectLine(t, s+"tock", 21, api.ErrText)
	}
}
