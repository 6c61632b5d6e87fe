package setup_test

import (
	"math/rand"
	"regexp"
	"slices"
	"strconv"
	"strings"
	"testing"

	"hourglass/admit"
	"hourglass/api"
	"hourglass/program"
	"hourglass/setup"
)

// pick tells one of a list.
func pick[T any](r *rand.Rand, l []T) T { return l[r.Intn(len(l))] }

// anyOp is a step that may be, among so many nodes and programs.
func anyOp(r *rand.Rand, nodes, programs int) api.Op {
	switch k := 1 + r.Intn(7); k {
	case work:
		return api.Op{Kind: k, A: 1 + r.Intn(1000)}
	case spawn:
		return api.Op{Kind: k, A: r.Intn(nodes), B: r.Intn(programs)}
	case answer:
		return api.Op{Kind: k, A: r.Intn(1 << 31)}
	case fail:
		return api.Op{Kind: k, A: 1 + r.Intn(16)}
	case refuse:
		return api.Op{Kind: k, A: -1 + r.Intn(1000002)}
	default:
		return api.Op{Kind: k}
	}
}

// anyConfig is a configuration that may be.
func anyConfig(r *rand.Rand) api.Config {
	var n [13]int
	for k := range n {
		n[k] = least()[k] + r.Intn(greatest()[k]-least()[k]+1)
		if r.Intn(4) == 0 {
			n[k] = pick(r, []int{least()[k], greatest()[k]})
		}
	}
	n[9], n[10] = min(n[9], n[10]), max(n[9], n[10])
	c := made(n, empty(1+r.Intn(16)))
	for i := range c.Programs {
		for range r.Intn(17) {
			c.Programs[i] = append(c.Programs[i], anyOp(r, c.Nodes, len(c.Programs)))
		}
	}
	return c
}

// scatter puts lines that say nothing among lines, and mixes those of settings, but not those of programs.
func scatter(r *rand.Rand, text string) string {
	l := strings.Split(strings.TrimSuffix(text, "\n"), "\n")
	r.Shuffle(13, func(i, j int) { l[i], l[j] = l[j], l[i] })
	for i := 13; i < len(l); i++ {
		// A program goes anywhere behind the one ahead of it.
		from := i
		for from > 0 && !strings.HasPrefix(l[from-1], "program") {
			from--
		}
		to := from + r.Intn(i-from+1)
		l = slices.Insert(slices.Delete(slices.Clone(l), i, i+1), to, l[i])
	}
	for range r.Intn(20) {
		l = slices.Insert(l, r.Intn(len(l)+1), pick(r, []string{"", "#", "# x", "#nodes 1", "# program", "#\t\r \xff"}))
	}
	s := strings.Join(l, "\n")
	if r.Intn(2) == 0 {
		s += "\n"
	}
	return s
}

// 29.3: a configuration that may be is read as it was told, in any order, among lines that say nothing.
func TestReadAsTold(t *testing.T) {
	r := rand.New(rand.NewSource(29))
	for range 2000 {
		c := anyConfig(r)
		if !admit.Right(c) || !program.All(c) {
			t.Fatalf("%v may not be", c)
		}
		s := setup.Text(c)
		expectRead(t, s, c)
		expectRead(t, strings.TrimSuffix(s, "\n"), c)
		expectRead(t, scatter(r, s), c)
		// A line behind all others that sets something, or is wrong, is told by its number.
		expectWrong(t, s+pick(r, words())+" 1", strings.Count(s, "\n")+1, api.ErrTwice)
		expectWrong(t, s+"\n"+pick(r, wrongLines()), strings.Count(s, "\n")+2, api.ErrText)
	}
}

// 29.3: settings of the first configuration need not be told at all.
func TestReadWithoutFirst(t *testing.T) {
	r := rand.New(rand.NewSource(30))
	for range 1000 {
		c := anyConfig(r)
		var l []string
		for line := range strings.Lines(setup.Text(c)) {
			if strings.HasPrefix(line, "program") || r.Intn(2) == 0 {
				l = append(l, line)
			}
		}
		want := c
		for k, w := range words() {
			told := slices.ContainsFunc(l, func(x string) bool { return strings.HasPrefix(x, w+" ") })
			if !told {
				want = setup.Set(want, k, firstNumbers()[k])
			}
		}
		if admit.Right(want) && program.All(want) {
			expectRead(t, strings.Join(l, ""), want)
		} else {
			expectWrong(t, strings.Join(l, ""), 0, api.ErrArg)
		}
	}
}

// set is how a line looks that sets something.
var set = regexp.MustCompile(`\A(` + strings.Join(words(), "|") + `) (0|[1-9][0-9]{0,6})\z`)

// theRule reads as the chapter says it, by an expression.
func theRule(s string) (api.Config, int, api.Errno) {
	all := strings.Split(s, "\n")
	if all[len(all)-1] == "" {
		all = all[:len(all)-1]
	}
	n, had := firstNumbers(), [13]bool{}
	var programs [][]api.Op
	for i, l := range all {
		if l == "" || strings.HasPrefix(l, "#") {
			continue
		}
		if m := set.FindStringSubmatch(l); m != nil {
			k := slices.Index(words(), m[1])
			if had[k] {
				return api.Config{}, i + 1, api.ErrTwice
			}
			had[k] = true
			n[k], _ = strconv.Atoi(m[2])
			continue
		}
		text, is := strings.CutPrefix(l, "program ")
		p, e := program.Parse(text, 64, 16)
		if l != "program" && (!is || text == "" || e != api.OK) {
			return api.Config{}, i + 1, api.ErrText
		}
		if l == "program" {
			p = nil
		}
		programs = append(programs, p)
	}
	c := made(n, programs)
	if !admit.Right(c) || !program.All(c) {
		return api.Config{}, 0, api.ErrArg
	}
	return c, 0, api.OK
}

// spoil puts another byte somewhere, takes one away, or puts one in.
func spoil(r *rand.Rand, s string) string {
	if s == "" {
		return s
	}
	at := r.Intn(len(s))
	b := string([]byte{pick(r, []byte("\n\n# 0159-;abgnoprst\r\t\x00\xff"))})
	switch r.Intn(3) {
	case 0:
		return s[:at] + b + s[at+1:]
	case 1:
		return s[:at] + s[at+1:]
	default:
		return s[:at] + b + s[at:]
	}
}

// 29.2: whatever the text is, it is read as the rule reads it.
func TestReadAsTheRule(t *testing.T) {
	r := rand.New(rand.NewSource(31))
	told := map[api.Errno]int{}
	for i := range 20000 {
		s := scatter(r, setup.Text(anyConfig(r)))
		if i%3 == 0 {
			l := strings.SplitAfter(s, "\n")
			l = slices.DeleteFunc(l, func(string) bool { return r.Intn(3) > 0 })
			r.Shuffle(len(l), func(i, j int) { l[i], l[j] = l[j], l[i] })
			s = strings.Join(l, "")
		}
		if i%5 == 0 {
			s += "\n" + pick(r, words()) + " " + strconv.Itoa(r.Intn(9)) + "\n" + s
		}
		for range r.Intn(4) {
			s = spoil(r, s)
		}
		want, line, wrong := theRule(s)
		got, at, e := setup.Read(s)
		if !equal(got, want) || at != line || e != wrong {
			t.Fatalf("Read(%q) = %v, %d, %v, not %v, %d, %v", s, got, at, e, want, line, wrong)
		}
		told[e]++
	}
	for _, e := range []api.Errno{api.OK, api.ErrArg, api.ErrText, api.ErrTwice} {
		if told[e] < 100 {
			t.Errorf("%v was told %d times only", e, told[e])
		}
	}
}

// 29.1: each setting of any configuration is told by Get, Set and Text alike.
func TestSettingsAlike(t *testing.T) {
	r := rand.New(rand.NewSource(32))
	for range 2000 {
		c := anyConfig(r)
		k, n := r.Intn(13), pick(r, numbers())
		with := setup.Set(c, k, n)
		for i := range 13 {
			want := numbersOf(c)[i]
			if i == k {
				want = n
			}
			if got := setup.Get(with, i); got != want {
				t.Fatalf("Get(%d) behind Set(%d, %d) = %d, not %d", i, k, n, got, want)
			}
		}
		l := strings.Split(setup.Text(c), "\n")
		l[k] = words()[k] + " " + strconv.Itoa(n)
		if got, want := setup.Text(with), strings.Join(l, "\n"); got != want {
			t.Fatalf("Text behind Set(%d, %d) = %q, not %q", k, n, got, want)
		}
	}
}
