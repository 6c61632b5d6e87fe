package script_test

import (
	"math"
	"math/rand"
	"regexp"
	"slices"
	"strconv"
	"strings"
	"testing"

	"hourglass/api"
	"hourglass/event"
	"hourglass/mesh"
	"hourglass/script"
)

// pick tells one of a list.
func pick[T any](r *rand.Rand, l []T) T { return l[r.Intn(len(l))] }

// anyNumber is one that a step may have, small or great.
func anyNumber(r *rand.Rand) int {
	switch r.Intn(3) {
	case 0:
		return r.Intn(21) - 10
	case 1:
		return pick(r, inside())
	}
	return r.Intn(2*most+1) - most
}

// anyStep is one that may be.
func anyStep(r *rand.Rand) mesh.Step {
	s := step(pick(r, kinds()))
	for i := range has()[s.Kind-1] {
		s = with(s, i, anyNumber(r))
	}
	return s
}

// anySteps are at most so many that may be.
func anySteps(r *rand.Rand, n int) []mesh.Step {
	var l []mesh.Step
	for range r.Intn(n + 1) {
		l = append(l, anyStep(r))
	}
	return l
}

// scatter puts lines that say nothing among lines, of which the last one ends with a line feed or not.
func scatter(r *rand.Rand, s string) string {
	l := strings.SplitAfter(s, "\n")
	l = l[:len(l)-1]
	for range r.Intn(20) {
		l = slices.Insert(l, r.Intn(len(l)+1), pick(r, []string{"\n", "#\n", "# x\n", "#tick 1\n", "# tock\r\n", "#\x00\xff\n"}))
	}
	s = strings.Join(l, "")
	if r.Intn(2) == 0 {
		s = strings.TrimSuffix(s, "\n")
	}
	return s
}

// 30.3: steps that may be are read as they were told, among whatever lines that say nothing.
func TestReadAsTold(t *testing.T) {
	r := rand.New(rand.NewSource(30))
	for i := range 3000 {
		l := anySteps(r, []int{3, 20, mostSteps}[i%3])
		s := script.Lines(l)
		expectRead(t, s, l...)
		expectRead(t, scatter(r, s), l...)
		for _, x := range l {
			expectStep(t, x, told(x))
		}
	}
}

// 30.3: what is read is told as it was, but for lines that say nothing.
func TestToldAsRead(t *testing.T) {
	r := rand.New(rand.NewSource(31))
	for range 2000 {
		s := scatter(r, script.Lines(anySteps(r, 40)))
		l, at, e := script.Read(s)
		if at != 0 || e != api.OK {
			t.Fatalf("Read(%q) = %d, %v", s, at, e)
		}
		said := ""
		for _, line := range strings.Split(s, "\n") {
			if line != "" && line[0] != '#' {
				said += line + "\n"
			}
		}
		if got := script.Lines(l); got != said {
			t.Fatalf("Lines behind Read(%q) = %q, not %q", s, got, said)
		}
	}
}

// lines are how steps look that may be, whatever their numbers, each kind at its place.
func lines() []*regexp.Regexp {
	var l []*regexp.Regexp
	for i, w := range words() {
		l = append(l, regexp.MustCompile(`\A`+w+strings.Repeat(` (0|-?[1-9][0-9]*)`, has()[i])+`\z`))
	}
	return l
}

// ruleLine reads a line as the chapter says it, by expressions.
func ruleLine(l string, all []*regexp.Regexp) (mesh.Step, bool) {
	for i, how := range all {
		m := how.FindStringSubmatch(l)
		if m == nil {
			continue
		}
		s := step(i + 1)
		for k, text := range m[1:] {
			n, err := strconv.ParseInt(text, 10, 64)
			if err != nil || n > most || n < -most {
				return mesh.Step{}, false
			}
			s = with(s, k, int(n))
		}
		return s, true
	}
	return mesh.Step{}, false
}

// theRule reads as the chapter says it.
func theRule(s string, how []*regexp.Regexp) ([]mesh.Step, int, api.Errno) {
	all := strings.Split(s, "\n")
	if all[len(all)-1] == "" {
		all = all[:len(all)-1]
	}
	var steps []mesh.Step
	for i, l := range all {
		if l == "" || strings.HasPrefix(l, "#") {
			continue
		}
		if len(steps) == 400 {
			return nil, i + 1, api.ErrFull
		}
		x, is := ruleLine(l, how)
		if !is {
			return nil, i + 1, api.ErrText
		}
		steps = append(steps, x)
	}
	return steps, 0, api.OK
}

// spoil puts another byte somewhere, takes one away, or puts one in.
func spoil(r *rand.Rand, s string) string {
	if s == "" {
		return s
	}
	at := r.Intn(len(s))
	b := string([]byte{pick(r, []byte("\n\n## 0123456789--+;acehiklmnoprstuvw\r\t\x00\xff"))})
	switch r.Intn(3) {
	case 0:
		return s[:at] + b + s[at+1:]
	case 1:
		return s[:at] + s[at+1:]
	default:
		return s[:at] + b + s[at:]
	}
}

// 30.2: whatever the text is, it is read as the rule reads it.
func TestReadAsTheRule(t *testing.T) {
	r := rand.New(rand.NewSource(32))
	how := lines()
	count := map[api.Errno]int{}
	for i := range 20000 {
		s := scatter(r, script.Lines(anySteps(r, 12)))
		if i%20 == 0 {
			s = strings.Repeat("deliver 0\n", mostSteps-r.Intn(8)) + s
		}
		for range r.Intn(4) {
			s = spoil(r, s)
		}
		want, line, wrong := theRule(s, how)
		got, at, e := script.Read(s)
		if !slices.Equal(got, want) || at != line || e != wrong {
			t.Fatalf("Read(%q) = %v, %d, %v, not %v, %d, %v", s, got, at, e, want, line, wrong)
		}
		count[e]++
	}
	for _, e := range []api.Errno{api.OK, api.ErrText, api.ErrFull} {
		if count[e] < 100 {
			t.Errorf("%v was told %d times only", e, count[e])
		}
	}
}

// 30.1: whatever a text is, a step is parsed if it is told so, and no other one.
func TestParseAsTheRule(t *testing.T) {
	r := rand.New(rand.NewSource(33))
	how := lines()
	count := 0
	for range 50000 {
		s := told(anyStep(r))
		for range 1 + r.Intn(2) {
			s = spoil(r, s)
		}
		want, is := ruleLine(s, how)
		if !is {
			expectNone(t, s)
			continue
		}
		expectStep(t, want, s)
		count++
	}
	if count < 1000 {
		t.Errorf("%d were steps only", count)
	}
}

// 30.1: a step may be if its kind is one, its numbers are not far out, and nothing else is there; its text is told even if not.
func TestRightAsTheRule(t *testing.T) {
	r := rand.New(rand.NewSource(34))
	count := 0
	for range 50000 {
		s := anyStep(r)
		for range r.Intn(3) {
			switch r.Intn(5) {
			case 4:
				s.Kind = pick(r, slices.Concat(kinds(), noKinds()))
			default:
				s = with(s, r.Intn(4), pick(r, slices.Concat(inside(), outside(), []int{0, 0, 0, math.MinInt, math.MaxInt})))
			}
		}
		may := told(s) != ""
		for i, n := range []int{s.A, s.B, s.C, s.D} {
			if may && (n > most || n < -most || i >= has()[s.Kind-1] && n != 0) {
				may = false
			}
		}
		if script.Right(s) != may || script.Text(s) != told(s) {
			t.Fatalf("%v: %v, %q, not %v, %q", s, script.Right(s), script.Text(s), may, told(s))
		}
		if may {
			count++
		}
	}
	if count < 1000 {
		t.Errorf("%d may be only", count)
	}
}

// 30.1: two steps that may be have one text only if they are one.
func TestTextsApart(t *testing.T) {
	r := rand.New(rand.NewSource(35))
	had := map[string]mesh.Step{}
	for range 50000 {
		s := anyStep(r)
		if other, is := had[script.Text(s)]; is && other != s {
			t.Fatalf("%v and %v are both %q", s, other, script.Text(s))
		}
		had[script.Text(s)] = s
	}
}

// 30.1: the words are those of what a mesh does.
func TestStepsOfAMesh(t *testing.T) {
	c := api.Config{Nodes: 2, Skew: 3, Lease: 100, Least: 1, Hops: 4, Cap: 8, Fan: 4, Attempts: 1, Base: 10, Most: 100, Wait: 500, Tokens: 10, Programs: [][]api.Op{{{Kind: api.Work, A: 2}, {Kind: api.Answer, A: 5}}}}
	play := func(text string) (*mesh.Mesh, []api.Errno) {
		l, at, e := script.Read(text)
		if at != 0 || e != api.OK {
			t.Fatalf("Read(%q) = %d, %v", text, at, e)
		}
		m, _ := mesh.New(c)
		var told []api.Errno
		for _, s := range l {
			told = append(told, m.Do(s))
		}
		return m, told
	}
	root := "tick 10\nshift 1 -2\nissue 0 1 0 100\ndeliver 0\nrun 1 0\nrun 1 0\nrun 1 0\ndeliver 0\n"
	m, e := play(root)
	if slices.ContainsFunc(e, func(e api.Errno) bool { return e != api.OK }) || m.Flights() != 0 || m.Real() != 10 {
		t.Error(e, m.Flights(), m.Real())
	}
	want := `10 issued at 0 10 0.0.1/0 value 100
10 sent at 0 10 0.0.2/1 by 0.0.1/0 under 0.0.1 hop 1
10 started at 1 8 0.0.2/1 by 0.0.1/0 under 0.0.1 hop 1
10 worked at 1 8 0.0.2/1
10 worked at 1 8 0.0.2/1
10 replied at 1 8 0.0.2/1 code 0 value 5
10 ended at 0 10 0.0.1/0 code 0 value 5
`
	if got := event.Text(m.Events()); got != want {
		t.Errorf("%s\nnot\n%s", got, want)
	}
	// What may be lost, doubled and spoilt is so, by each word for itself.
	m, e = play("issue 0 1 0 100\ntwice 0\ntwice 1\nhurt 1 3 4\ndeliver 1\ndrop 1\ncancel 0 0\ntimer 0\ncrash 1\n")
	if !slices.Equal(e, []api.Errno{0, 0, 0, 0, api.ErrSum, 0, 0, 0, 0}) || m.Flights() != 2 {
		t.Error(e, m.Flights())
	}
	if last := m.Events()[len(m.Events())-1]; last.Kind != api.Crashed || last.Node != 1 {
		t.Error(last)
	}
	// Steps that may be need not be such as can be done.
	_, e = play("tick -1\nshift 2 1\ntimer -1\nrun 0 0\ndeliver 0\ndrop -1\ntwice 9\nhurt 0 0 0\nissue 2 0 0 0\ncancel 0 0\ncrash 1125899906842624")
	if slices.Contains(e[1:], api.OK) {
		t.Error(e)
	}
}
