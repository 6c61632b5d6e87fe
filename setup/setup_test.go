package setup_test

import (
	"math"
	"slices"
	"strconv"
	"strings"
	"testing"

	"hourglass/api"
	"hourglass/setup"
)

// The kinds of steps are written out, so that a test tells when they are taken wrongly.
const (
	work   = 1
	spawn  = 2
	join   = 3
	head   = 4
	answer = 5
	fail   = 6
	refuse = 7
)

// words are the settings' words, in order.
func words() []string {
	return []string{"nodes", "skew", "lease", "grain", "least", "hops", "cap", "fan", "attempts", "base", "most", "wait", "tokens"}
}

// numbered is the configuration of which the settings are these numbers, in order.
func numbered(n [13]int) api.Config {
	return api.Config{
		Nodes: n[0], Skew: n[1], Lease: n[2], Grain: n[3], Least: n[4], Hops: n[5], Cap: n[6],
		Fan: n[7], Attempts: n[8], Base: n[9], Most: n[10], Wait: n[11], Tokens: n[12],
	}
}

// numbersOf are the numbers of a configuration's settings, in order.
func numbersOf(c api.Config) [13]int {
	return [13]int{c.Nodes, c.Skew, c.Lease, c.Grain, c.Least, c.Hops, c.Cap, c.Fan, c.Attempts, c.Base, c.Most, c.Wait, c.Tokens}
}

// firstNumbers are those of the first configuration.
func firstNumbers() [13]int {
	return [13]int{1, 0, 1000, 0, 1, 4, 8, 4, 1, 10, 100, 500, 10}
}

// numbers are ordinary ones, the edges with their neighbours, and numbers out of range.
func numbers() []int {
	return []int{
		math.MinInt, math.MinInt + 1, -1 << 32, -10000000, -1000, -10, -9, -2, -1, 0, 1, 2, 5, 6, 7, 9, 10, 11, 64, 65, 99, 100, 1000, 1001,
		999999, 1000000, 1000001, 9999999, 10000000, 1 << 31, 1<<32 + 1, 1 << 50, math.MaxInt - 1, math.MaxInt,
	}
}

// places are those of all settings, and some at which there is none.
func places() []int {
	l := []int{math.MinInt, -256, -13, -2, -1, 13, 14, 15, 256, 269, 1 << 32, math.MaxInt}
	for k := range 13 {
		l = append(l, k)
	}
	return l
}

// same tells whether two lists of programs are the same; nil and empty ones are.
func same(a, b [][]api.Op) bool {
	return slices.EqualFunc(a, b, func(x, y []api.Op) bool { return slices.Equal(x, y) })
}

// equal tells whether two configurations are the same.
func equal(a, b api.Config) bool {
	return numbersOf(a) == numbersOf(b) && same(a.Programs, b.Programs)
}

// some are programs, an empty one among them.
func some() [][]api.Op {
	return [][]api.Op{{{Kind: answer, A: 5}}, nil, {{Kind: work, A: 2}, {Kind: spawn, A: 0, B: 1}, {Kind: join}}}
}

// with is the first configuration, with other numbers at some places.
func with(programs [][]api.Op, changes ...int) api.Config {
	n := firstNumbers()
	for i := 0; i+1 < len(changes); i += 2 {
		n[changes[i]] = changes[i+1]
	}
	c := numbered(n)
	c.Programs = programs
	return c
}

func TestFirst(t *testing.T) {
	for range 2 {
		c := setup.First()
		if numbersOf(c) != firstNumbers() || len(c.Programs) != 0 {
			t.Errorf("First() = %v", c)
		}
		c.Nodes, c.Programs = 7, some()
	}
}

// 29.1: the words stand in their order, and those that were told before can be changed.
func TestWords(t *testing.T) {
	for range 2 {
		got := setup.Words()
		if !slices.Equal(got, words()) {
			t.Errorf("Words() = %q", got)
		}
		for i := range got {
			got[i] = "x"
		}
	}
}

// 29.1: the number at each place is told, and of no other one.
func TestGet(t *testing.T) {
	c := numbered([13]int{101, 102, 103, 104, 105, 106, 107, 108, 109, 110, 111, 112, 113})
	for _, k := range places() {
		want := 0
		if k >= 0 && k < 13 {
			want = 101 + k
		}
		if got := setup.Get(c, k); got != want {
			t.Errorf("Get(%d) = %d, not %d", k, got, want)
		}
		if got := setup.Get(api.Config{}, k); got != 0 {
			t.Errorf("Get of the zero one at %d = %d", k, got)
		}
	}
	for _, n := range numbers() {
		for k := range 13 {
			if got := setup.Get(with(some(), k, n), k); got != n {
				t.Errorf("Get(%d) = %d, not %d", k, got, n)
			}
		}
	}
}

// 29.1: a setting is as it was set, whatever the number is, and all else is as it was.
func TestSet(t *testing.T) {
	for _, k := range places() {
		for _, n := range numbers() {
			for _, programs := range [][][]api.Op{nil, {}, {nil}, {{}}, some()} {
				c := with(programs)
				want := c
				if k >= 0 && k < 13 {
					want = with(programs, k, n)
				}
				if got := setup.Set(c, k, n); !equal(got, want) {
					t.Errorf("Set(%v, %d, %d) = %v", c, k, n, got)
				}
				if !equal(c, with(programs)) {
					t.Errorf("Set(%d, %d) changed what it was handed: %v", k, n, c)
				}
			}
		}
	}
	for k := range 13 {
		var n [13]int
		n[k] = 7
		if got := setup.Set(api.Config{}, k, 7); !equal(got, numbered(n)) {
			t.Errorf("Set of the zero one at %d = %v", k, got)
		}
	}
}

// 29.1: one setting behind the other, each stays.
func TestSetAll(t *testing.T) {
	c := setup.First()
	var want [13]int
	for k := range 13 {
		want[k] = -5 * k
		c = setup.Set(c, k, want[k])
	}
	if numbersOf(c) != want {
		t.Errorf("all set: %v", c)
	}
	if c = setup.Set(c, 3, 8); c.Grain != 8 {
		t.Errorf("set again: %v", c)
	}
}

// R4: what Set answers can be changed, and nothing behind a list's length is.
func TestSetMemory(t *testing.T) {
	for _, k := range []int{-1, 0, 12, 13} {
		back := some()
		c := with(back[:2:3])
		c.Programs[0] = make([]api.Op, 1, 4)
		c.Programs[0][0] = api.Op{Kind: answer, A: 5}
		got := setup.Set(c, k, 3)
		got.Programs[0][0].A = 99
		got.Programs[0] = append(got.Programs[0], api.Op{Kind: head})
		got.Programs[1] = []api.Op{{Kind: fail, A: 3}}
		got.Programs = append(got.Programs, nil)
		if !same(back, some()) || !same(c.Programs, some()[:2]) || c.Programs[0][:2][1] != (api.Op{}) {
			t.Errorf("Set at %d shares: %v", k, back)
		}
	}
}

// lines is the text of settings of these numbers.
func lines(n [13]int) string {
	s := ""
	for k, w := range words() {
		s += w + " " + strconv.Itoa(n[k]) + "\n"
	}
	return s
}

func expectText(t *testing.T, c api.Config, want string) {
	t.Helper()
	if got := setup.Text(c); got != want {
		t.Errorf("Text(%v) = %q, not %q", c, got, want)
	}
}

// 29.1: a line of each setting, written out in full once.
func TestText(t *testing.T) {
	expectText(t, setup.First(), "nodes 1\nskew 0\nlease 1000\ngrain 0\nleast 1\nhops 4\ncap 8\nfan 4\nattempts 1\nbase 10\nmost 100\nwait 500\ntokens 10\n")
	expectText(t, api.Config{}, "nodes 0\nskew 0\nlease 0\ngrain 0\nleast 0\nhops 0\ncap 0\nfan 0\nattempts 0\nbase 0\nmost 0\nwait 0\ntokens 0\n")
	expectText(t, numbered([13]int{-1, 22, -333, 4444, -5, 6, -7, 8, -9, 10, -11, 12, -13}),
		"nodes -1\nskew 22\nlease -333\ngrain 4444\nleast -5\nhops 6\ncap -7\nfan 8\nattempts -9\nbase 10\nmost -11\nwait 12\ntokens -13\n")
	for _, n := range numbers() {
		for k := range 13 {
			all := firstNumbers()
			all[k] = n
			expectText(t, numbered(all), lines(all))
		}
	}
	expectText(t, with(nil, 0, math.MinInt, 12, math.MaxInt), strings.NewReplacer("nodes 1\n", "nodes -9223372036854775808\n", "tokens 10\n", "tokens 9223372036854775807\n").Replace(lines(firstNumbers())))
}

// 29.1: a line of each program; those of which program.Text tells nothing have the word alone.
func TestTextOfPrograms(t *testing.T) {
	first := lines(firstNumbers())
	for _, l := range []struct {
		programs [][]api.Op
		want     string
	}{
		{nil, ""},
		{[][]api.Op{}, ""},
		{[][]api.Op{nil}, "program\n"},
		{[][]api.Op{{}}, "program\n"},
		{[][]api.Op{nil, {}, nil}, "program\nprogram\nprogram\n"},
		{some(), "program answer 5\nprogram\nprogram work 2; spawn 0 1; join\n"},
		{[][]api.Op{{{Kind: head}, {Kind: refuse, A: -1}, {Kind: fail, A: 14}}}, "program head; refuse -1; fail 14\n"},
		// Steps that may not be are told, too, if their kinds are some;
		{[][]api.Op{{{Kind: work, A: -3}, {Kind: join, A: 7, B: 8}}, {{Kind: spawn, A: 99, B: -99}}}, "program work -3; join\nprogram spawn 99 -99\n"},
		// and of others the whole program is.
		{[][]api.Op{{{Kind: 8}}, {{Kind: answer, A: 1}, {}}, {{Kind: -1, A: 1, B: 1}, {Kind: head}}, {{Kind: head}}}, "program\nprogram\nprogram\nprogram head\n"},
		{[][]api.Op{slices.Repeat([]api.Op{{Kind: head}}, 17)}, "program head" + strings.Repeat("; head", 16) + "\n"},
		{make([][]api.Op, 40), strings.Repeat("program\n", 40)},
	} {
		expectText(t, with(l.programs), first+l.want)
	}
	c := with(some())
	setup.Text(c)
	if !equal(c, with(some())) {
		t.Errorf("Text changed %v", c)
	}
}
