package script_test

import (
	"math"
	"slices"
	"strconv"
	"strings"
	"testing"

	"hourglass/api"
	"hourglass/mesh"
	"hourglass/script"
)

// The kinds and the greatest number are written out, so that a test tells when they are taken wrongly.
const (
	tick    = 1
	shift   = 2
	timer   = 3
	run     = 4
	deliver = 5
	drop    = 6
	twice   = 7
	hurt    = 8
	issue   = 9
	cancel  = 10
	crash   = 11

	most      = 1125899906842624
	mostSteps = 400
)

// words are those of the kinds, from 1 on.
func words() []string {
	return []string{"tick", "shift", "timer", "run", "deliver", "drop", "twice", "hurt", "issue", "cancel", "crash"}
}

// has is how many numbers the kinds have, from 1 on.
func has() []int { return []int{1, 2, 1, 2, 1, 1, 1, 3, 4, 2, 1} }

// kinds are all that there are.
func kinds() []int {
	return []int{tick, shift, timer, run, deliver, drop, twice, hurt, issue, cancel, crash}
}

// noKinds are numbers of no kind.
func noKinds() []int {
	return []int{math.MinInt, math.MinInt + 1, -1 << 32, -11, -2, -1, 0, 12, 13, 14, 15, 16, 100, 255, 256 + tick, 1<<32 + tick, 1<<63 - 11, math.MaxInt}
}

// inside are numbers that a step may have, the edges among them.
func inside() []int {
	return []int{-most, -most + 1, -1 << 32, -1000, -10, -9, -2, -1, 0, 1, 2, 3, 9, 10, 64, 255, 256, 1000, 1<<31 - 1, 1 << 31, 1 << 32, most - 1, most}
}

// outside are numbers that no step may have.
func outside() []int {
	return []int{math.MinInt, math.MinInt + 1, -1 << 62, -1 << 51, -most - 2, -most - 1, most + 1, most + 2, 1 << 51, 1 << 62, math.MaxInt - 1, math.MaxInt}
}

// step is one of a kind, with these numbers, A first.
func step(kind int, numbers ...int) mesh.Step {
	var all [4]int
	copy(all[:], numbers)
	return mesh.Step{Kind: kind, A: all[0], B: all[1], C: all[2], D: all[3]}
}

// with is a step with another number at the place i, from 0 on.
func with(s mesh.Step, i, n int) mesh.Step {
	*[]*int{&s.A, &s.B, &s.C, &s.D}[i] = n
	return s
}

// full is a step of a kind, of which all numbers that it has are apart, and none is 0.
func full(kind int) mesh.Step {
	return step(kind, []int{7, -8, 90, -1000}[:has()[kind-1]]...)
}

// told is a step's text, by the chapter's rule.
func told(s mesh.Step) string {
	if s.Kind < tick || s.Kind > crash {
		return ""
	}
	l := []string{words()[s.Kind-1]}
	for _, n := range []int{s.A, s.B, s.C, s.D}[:has()[s.Kind-1]] {
		l = append(l, strconv.FormatInt(int64(n), 10))
	}
	return strings.Join(l, " ")
}

// expectStep asks that this step may be, and that this be its text.
func expectStep(t *testing.T, s mesh.Step, text string) {
	t.Helper()
	if !script.Right(s) {
		t.Errorf("Right(%v) = false", s)
	}
	if got := script.Text(s); got != text {
		t.Errorf("Text(%v) = %q, not %q", s, got, text)
	}
	if got, e := script.Parse(text); e != api.OK || got != s {
		t.Errorf("Parse(%q) = %v, %v, not %v", text, got, e, s)
	}
}

// expectNone asks that this be the text of no step that may be.
func expectNone(t *testing.T, text string) {
	t.Helper()
	if got, e := script.Parse(text); e != api.ErrText || got != (mesh.Step{}) {
		t.Errorf("Parse(%q) = %v, %v", text, got, e)
	}
}

// expectWrong asks that this step may not be.
func expectWrong(t *testing.T, s mesh.Step) {
	t.Helper()
	if script.Right(s) {
		t.Errorf("Right(%v) = true", s)
	}
}

func TestMost(t *testing.T) {
	if script.Most != most {
		t.Error(script.Most)
	}
}

// 30.1: each kind has its word, and so many numbers.
func TestSteps(t *testing.T) {
	expectStep(t, step(tick, 5), "tick 5")
	expectStep(t, step(shift, 1, -2), "shift 1 -2")
	expectStep(t, step(timer, 3), "timer 3")
	expectStep(t, step(run, 1, 4), "run 1 4")
	expectStep(t, step(deliver, 6), "deliver 6")
	expectStep(t, step(drop, 7), "drop 7")
	expectStep(t, step(twice, 8), "twice 8")
	expectStep(t, step(hurt, 0, 3, -4), "hurt 0 3 -4")
	expectStep(t, step(issue, 0, 1, 2, 100), "issue 0 1 2 100")
	expectStep(t, step(cancel, 9, 10), "cancel 9 10")
	expectStep(t, step(crash, 63), "crash 63")
	for _, k := range kinds() {
		expectStep(t, step(k), words()[k-1]+strings.Repeat(" 0", has()[k-1]))
		expectStep(t, full(k), words()[k-1]+strings.Join([]string{"", "7", "-8", "90", "-1000"}[:has()[k-1]+1], " "))
	}
}

// 30.1: each number that a step has is from -2^50 to 2^50, whatever the others are.
func TestNumbers(t *testing.T) {
	for _, k := range kinds() {
		for i := range has()[k-1] {
			for _, s := range []mesh.Step{step(k), full(k)} {
				for _, n := range inside() {
					expectStep(t, with(s, i, n), told(with(s, i, n)))
				}
				for _, n := range outside() {
					expectWrong(t, with(s, i, n))
					if got := script.Text(with(s, i, n)); got != told(with(s, i, n)) {
						t.Errorf("Text(%v) = %q", with(s, i, n), got)
					}
					expectNone(t, told(with(s, i, n)))
				}
			}
		}
	}
	expectStep(t, step(issue, most, -most, most, -most), "issue 1125899906842624 -1125899906842624 1125899906842624 -1125899906842624")
	expectNone(t, "issue 1125899906842625 -1125899906842625 1125899906842625 -1125899906842625")
}

// 30.1: what a step has not is 0; its text tells nothing of that.
func TestOthers(t *testing.T) {
	for _, k := range kinds() {
		for i := has()[k-1]; i < 4; i++ {
			for _, n := range slices.Concat(inside(), outside()) {
				for _, s := range []mesh.Step{step(k), full(k)} {
					if n != 0 {
						expectWrong(t, with(s, i, n))
					}
					if got := script.Text(with(s, i, n)); got != told(s) {
						t.Errorf("Text(%v) = %q", with(s, i, n), got)
					}
				}
			}
		}
	}
	// Two that it has not are no step either, even if they are 0 together.
	expectWrong(t, step(tick, 1, 1, -1))
	expectWrong(t, step(run, 1, 1, 5, -5))
	expectWrong(t, step(hurt, 1, 1, 1, 1))
}

// 30.1: of no kind there is no step, and no text.
func TestNoKinds(t *testing.T) {
	for _, k := range noKinds() {
		for _, s := range []mesh.Step{step(k), step(k, 1), step(k, 1, 2, 3, 4), step(k, math.MinInt, math.MaxInt, -1, 0)} {
			expectWrong(t, s)
			if got := script.Text(s); got != "" {
				t.Errorf("Text(%v) = %q", s, got)
			}
		}
	}
	expectNone(t, "")
}

// wrongTexts are those of no step that may be, and none begins with #.
func wrongTexts() []string {
	l := []string{
		" ", "  ", "\t", "\r", "\n", "\x00", "\xff", "0", "1", "-1", "1 1", "work 1", "spawn 1 0", "join", "nodes 1", "program head", "x", "x 1", "---", "-", ";", "//", " #", "tock 1", "tic 1", "ticks 1", "ti 1", "hurts 1 1 1",
		"Tick 1", "TICK 1", "tIck 1", "start 1", "stop 1", "receive 1", "look 0", "lost 1", "keep 1", "push 1", "reply 1", "call 1",
		"tick\t1", "tick,1", "tick:1", "tick=1", "tick1", "tick-1", "tick(1)", "1 tick", "tick tick", "tick tick 1", "tick 1;", "tick 1; tick 1", "tick 1 tick 1", "tick 1\ntick 1", "tick 1 #", "tick 1#", "tick #1", "tick 1 # one",
		"\xef\xbb\xbftick 1", "\u00a0tick 1", "tick\u00a01", "tick 1\u00a0",
		"shift 1, 2", "shift 1,2", "shift 1\t2", "shift 1  2", "shift  1 2", "shift 1 2 ", " shift 1 2", "hurt 1 2  3", "hurt 1  2 3", "issue 1 2 3  4", "issue 1 2 3 4 ", "issue 1 2 3 4 5", "issue 1 2 3 4 0", "issue 0 0 0 0 0", "issue 1 2 3 ",
	}
	for _, k := range kinds() {
		w, text := words()[k-1], told(full(k))
		l = append(l, w, w+" ", w+"  ", " "+text, text+" ", text+"  ", text+" 0", text+" 1", text+" -1", text+" x", text+"\r", text+"\n", text+"\t", text+"\x00", "\n"+text, "\t"+text, w+text, text+text, text+" "+text, strings.ToUpper(text), strings.Replace(text, " ", "  ", 1), strings.Replace(text, " ", "\t", 1), strings.Replace(text, " ", "", 1))
		for at := strings.LastIndex(text, " "); at >= 0; at = strings.LastIndex(text[:at], " ") {
			l = append(l, text[:at], text[:at+1])
		}
	}
	return l
}

// noNumbers are texts that are not how a number from -2^50 to 2^50 is told.
func noNumbers() []string {
	return []string{
		"", " ", "00", "01", "007", "-0", "-00", "-01", "-007", "+0", "+1", "+-1", "-+1", "--1", "-", "+", "1-", "1+", ".", "1.", ".1", "1.0", "1e3", "1E3", "0x1", "0b1", "0o1", "0x", "1_0", "1,0", "_1", "1_", "a", "x1", "1x", "-x", "one", "nil", "NaN", "Inf", "-Inf",
		"\t1", "1\t", "1\r", "\x001", "1\x00", "1:", "1/", ":", "/", "\u0661", "\uff11", "1\u0661", "\u22121", "\u20131", "\xff", "1\xff", "1\xc0\xb1", "\u00b2", "#", "1#", "(1)", "'1'", "\"1\"", "- 1",
		"1125899906842625", "-1125899906842625", "01125899906842624", "-01125899906842624", "11258999068426240", "9007199254740993", "2147483648000000", "9223372036854775807", "9223372036854775808", "-9223372036854775808", "-9223372036854775809",
		"18446744073709551616", "18446744073709551617", "-18446744073709551615", "340282366920938463463374607431768211457", "99999999999999999999", "-99999999999999999999", strings.Repeat("0", 100), strings.Repeat("0", 100) + "1", strings.Repeat("9", 1000), "-" + strings.Repeat("1", 1000),
	}
}

// 30.1: of each text that is not told as steps are nothing is read.
func TestWrongTexts(t *testing.T) {
	for _, s := range wrongTexts() {
		expectNone(t, s)
	}
	for _, n := range noNumbers() {
		for _, k := range kinds() {
			for i := range has()[k-1] {
				l := strings.Split(told(full(k)), " ")
				l[i+1] = n
				expectNone(t, strings.Join(l, " "))
			}
		}
	}
	// What says nothing in a script is no step's text either.
	for _, s := range []string{"#", "# tick 1", "#tick 1", "##"} {
		expectNone(t, s)
	}
	// Great ones, too.
	for _, s := range []string{strings.Repeat(" ", 1<<20), strings.Repeat("tick ", 1<<18), "tick " + strings.Repeat("1", 1<<20), "tick 1" + strings.Repeat(" 1", 1<<19), strings.Repeat("x", 1<<20)} {
		if got, e := script.Parse(s); e != api.ErrText || got != (mesh.Step{}) {
			t.Errorf("Parse of %d bytes = %v, %v", len(s), got, e)
		}
	}
}

// 30.2: of each step, whatever it is, its text, and a line feed.
func TestLines(t *testing.T) {
	for _, l := range [][]mesh.Step{nil, {}} {
		if got := script.Lines(l); got != "" {
			t.Errorf("Lines(%v) = %q", l, got)
		}
	}
	for want, l := range map[string][]mesh.Step{
		"tick 1\n":                          {step(tick, 1)},
		"issue 0 1 2 100\ndeliver 0\n":      {step(issue, 0, 1, 2, 100), step(deliver)},
		"\n":                                {step(0)},
		"\n\n":                              {step(0, 1), step(12)},
		"crash 1\n\ncrash 1\n":              {step(crash, 1), step(-1), step(crash, 1)},
		"tick 9223372036854775807\n":        {step(tick, math.MaxInt)},
		"tick -9223372036854775808\n":       {step(tick, math.MinInt)},
		"run 1 2\nrun 1 2\nrun 1 2\n":       {step(run, 1, 2), step(run, 1, 2, 3), step(run, 1, 2, 0, -4)},
		"tick 3\ntick 2\ntick 1\n":          {step(tick, 3), step(tick, 2), step(tick, 1)},
		"hurt 1 2 3\ntimer 0\ncancel 0 0\n": {step(hurt, 1, 2, 3), step(timer), step(cancel)},
	} {
		if got := script.Lines(l); got != want {
			t.Errorf("Lines(%v) = %q, not %q", l, got, want)
		}
	}
	// There may be more than can be read.
	if got := script.Lines(slices.Repeat([]mesh.Step{step(tick, 1)}, 1000)); got != strings.Repeat("tick 1\n", 1000) {
		t.Errorf("Lines of 1000 steps = %q", got)
	}
}

// R4: what is handed in stays as it was, and what lies behind it is neither read nor written.
func TestLinesMemory(t *testing.T) {
	all := []mesh.Step{step(tick, 1), step(0, 1, 2, 3, 4), step(issue, 1, 2, 3, 4), step(crash, 9)}
	before := slices.Clone(all)
	if got := script.Lines(all[:2]); got != "tick 1\n\n" {
		t.Errorf("Lines = %q", got)
	}
	if !slices.Equal(all, before) {
		t.Errorf("%v, not %v", all, before)
	}
}
