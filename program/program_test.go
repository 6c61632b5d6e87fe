package program_test

import (
	"math"
	"math/rand"
	"slices"
	"strconv"
	"strings"
	"testing"

	"hourglass/api"
	"hourglass/program"
)

// The kinds and the greatest numbers are written out, so that a test tells when they are taken wrongly.
const (
	work   = 1
	spawn  = 2
	join   = 3
	head   = 4
	answer = 5
	fail   = 6
	refuse = 7

	mostWork  = 1000
	mostValue = 1<<31 - 1
	mostCode  = 16
	mostWait  = 1000000
	mostSteps = 16
)

// kinds are all that there are, and some that there are not.
func kinds() []int {
	return []int{math.MinInt, -7, -1, 0, work, spawn, join, head, answer, fail, refuse, 8, 9, 256 + work, 1<<32 + join, math.MaxInt}
}

// numbers are ordinary ones, the edges with their neighbours, and numbers out of range.
func numbers() []int {
	return []int{
		math.MinInt, math.MinInt + 1, -mostValue, -mostWait, -mostWork, -5, -2, -1, 0, 1, 2, 3, 4, 5, 7, 14, 15, 16, 17, 18, 63, 64, 65, 256,
		999, 1000, 1001, mostWait - 1, mostWait, mostWait + 1, mostValue - 1, mostValue, mostValue + 1, 1 << 32, 1<<32 + 1, math.MaxInt - 1, math.MaxInt,
	}
}

// few are ordinary and wrong ones of nodes and programs, with their edges.
func few() []int {
	return []int{math.MinInt, -1, 0, 1, 2, 3, 16, 17, 64, 65, mostValue, math.MaxInt}
}

// op is a step.
func op(kind, a, b int) api.Op { return api.Op{Kind: kind, A: a, B: b} }

// held is the nearest number to n that is from least to most.
func held(n, least, most int) int {
	switch {
	case n < least:
		return least
	case n > most:
		return most
	}
	return n
}

// may is whether a step may be, by the chapter's list.
func may(o api.Op, nodes, programs int) bool {
	switch {
	case o.Kind == work:
		return o.A > 0 && o.A < 1001 && o.B == 0
	case o.Kind == spawn:
		return o.A > -1 && o.A <= nodes-1 && nodes > 0 && o.B > -1 && o.B <= programs-1 && programs > 0
	case o.Kind == join, o.Kind == head:
		return o.A == 0 && o.B == 0
	case o.Kind == answer:
		return o.A > -1 && o.A < 2147483648 && o.B == 0
	case o.Kind == fail:
		return o.A > 0 && o.A < 17 && o.B == 0
	case o.Kind == refuse:
		return o.A > -2 && o.A < 1000001 && o.B == 0
	}
	return false
}

// told is a program's text, by the chapter's rule.
func told(l []api.Op) string {
	s := ""
	for k, o := range l {
		if o.Kind < work || o.Kind > refuse {
			return ""
		}
		if k > 0 {
			s += "; "
		}
		s += []string{"", "work", "spawn", "join", "head", "answer", "fail", "refuse"}[o.Kind]
		if o.Kind != join && o.Kind != head {
			s += " " + strconv.Itoa(o.A)
		}
		if o.Kind == spawn {
			s += " " + strconv.Itoa(o.B)
		}
	}
	return s
}

// right are all kinds of steps that may be among two nodes and three programs, at their edges.
func right() []api.Op {
	return []api.Op{
		op(work, 1, 0), op(work, 2, 0), op(work, 999, 0), op(work, 1000, 0), op(spawn, 0, 0), op(spawn, 1, 0), op(spawn, 0, 2), op(spawn, 1, 2), op(join, 0, 0), op(head, 0, 0),
		op(answer, 0, 0), op(answer, 5, 0), op(answer, mostValue, 0), op(fail, 1, 0), op(fail, 14, 0), op(fail, 16, 0), op(refuse, -1, 0), op(refuse, 0, 0), op(refuse, mostWait, 0),
	}
}

// wrong are steps that may not be among two nodes and three programs, each beside an edge, or of no kind.
func wrong() []api.Op {
	return []api.Op{
		op(0, 0, 0), op(8, 0, 0), op(-1, 1, 0), op(work, 0, 0), op(work, -1, 0), op(work, 1001, 0), op(work, 1, 1), op(work, 1, -1), op(spawn, -1, 0), op(spawn, 2, 0), op(spawn, 0, -1),
		op(spawn, 0, 3), op(join, 1, 0), op(join, 0, 1), op(join, -1, 0), op(head, 1, 0), op(head, 0, 1), op(head, 0, -1), op(answer, -1, 0), op(answer, mostValue+1, 0),
		op(answer, 0, 1), op(fail, 0, 0), op(fail, -1, 0), op(fail, 17, 0), op(fail, 1, 1), op(refuse, -2, 0), op(refuse, mostWait+1, 0), op(refuse, 0, -1),
	}
}

// step is a step at random, of whatever kind, that may be among so many nodes and programs, of which there is one at least.
func step(r *rand.Rand, nodes, programs int) api.Op {
	switch kind := 1 + r.Intn(refuse); kind {
	case work:
		return api.Op{Kind: work, A: 1 + r.Intn(mostWork)}
	case spawn:
		return api.Op{Kind: spawn, A: r.Intn(nodes), B: r.Intn(programs)}
	case answer:
		return api.Op{Kind: answer, A: r.Intn(mostValue) >> r.Intn(32)}
	case fail:
		return api.Op{Kind: fail, A: 1 + r.Intn(mostCode)}
	case refuse:
		return api.Op{Kind: refuse, A: r.Intn(mostWait+2)>>r.Intn(20) - 1}
	default:
		return api.Op{Kind: kind}
	}
}

// steps are some steps at random that may be.
func steps(r *rand.Rand, nodes, programs int) []api.Op {
	var l []api.Op
	for range r.Intn(mostSteps + 1) {
		l = append(l, step(r, nodes, programs))
	}
	return l
}

func expectOp(t *testing.T, o api.Op, nodes, programs int, want bool) {
	t.Helper()
	if got := program.Op(o, nodes, programs); got != want {
		t.Errorf("Op(%v, %d, %d) = %v", o, nodes, programs, got)
	}
}

func expectRight(t *testing.T, l []api.Op, nodes, programs int, want bool) {
	t.Helper()
	if got := program.Right(l, nodes, programs); got != want {
		t.Errorf("Right(%v, %d, %d) = %v", l, nodes, programs, got)
	}
}

func expectAll(t *testing.T, c api.Config, want bool) {
	t.Helper()
	if got := program.All(c); got != want {
		t.Errorf("All(%+v) = %v", c, got)
	}
}

func expectUnits(t *testing.T, l []api.Op, want int) {
	t.Helper()
	if got := program.Units(l); got != want {
		t.Errorf("Units(%v) = %d, not %d", l, got, want)
	}
}

func expectText(t *testing.T, l []api.Op, want string) {
	t.Helper()
	if got := program.Text(l); got != want {
		t.Errorf("Text(%v) = %q, not %q", l, got, want)
	}
}

func expectParsed(t *testing.T, s string, nodes, programs int, want []api.Op) {
	t.Helper()
	if got, e := program.Parse(s, nodes, programs); e != api.OK || !slices.Equal(got, want) {
		t.Errorf("Parse(%q, %d, %d) = %v, %v, not %v", s, nodes, programs, got, e, want)
	}
}

func expectRefused(t *testing.T, s string, nodes, programs int) {
	t.Helper()
	if got, e := program.Parse(s, nodes, programs); e != api.ErrText || len(got) != 0 {
		t.Errorf("Parse(%q, %d, %d) = %v, %v", s, nodes, programs, got, e)
	}
}

// The chapter: the greatest number of units of a step.
func TestMaxWork(t *testing.T) {
	if program.MaxWork != mostWork {
		t.Error(program.MaxWork)
	}
}

// 22.1: each kind of step, at its edges and beside them.
func TestOp(t *testing.T) {
	for _, o := range right() {
		expectOp(t, o, 2, 3, true)
	}
	for _, o := range wrong() {
		expectOp(t, o, 2, 3, false)
	}
}

// 22.1: of each kind, that is or is none, all numbers, with and without another one besides.
func TestOpOfNumbers(t *testing.T) {
	for _, kind := range kinds() {
		for _, a := range numbers() {
			for _, b := range numbers() {
				o := api.Op{Kind: kind, A: a, B: b}
				expectOp(t, o, 2, 3, may(o, 2, 3))
				expectOp(t, o, 64, 16, may(o, 64, 16))
			}
		}
	}
}

// 22.1: each code but OK, and no number that is none.
func TestOpOfCodes(t *testing.T) {
	for n := -40; n <= 40; n++ {
		expectOp(t, api.Op{Kind: fail, A: n}, 1, 1, n >= 1 && n <= mostCode)
	}
}

// 22.1: a spawn goes to one of the nodes and programs, however many; of none there is none to go to.
func TestOpOfNodes(t *testing.T) {
	for _, nodes := range few() {
		for _, programs := range few() {
			for _, a := range numbers() {
				for _, b := range []int{math.MinInt, -1, 0, 1, 2, 3, 15, 16, 17, mostValue - 1, mostValue, math.MaxInt - 1, math.MaxInt} {
					o := api.Op{Kind: spawn, A: a, B: b}
					expectOp(t, o, nodes, programs, may(o, nodes, programs))
				}
			}
			for _, o := range right() {
				if o.Kind != spawn {
					expectOp(t, o, nodes, programs, true)
				}
			}
			for _, o := range wrong() {
				if o.Kind != spawn {
					expectOp(t, o, nodes, programs, false)
				}
			}
		}
	}
}

// 22.1: a program may be, if all its steps may, wherever the wrong one stands.
func TestRight(t *testing.T) {
	expectRight(t, nil, 2, 3, true)
	expectRight(t, []api.Op{}, 2, 3, true)
	expectRight(t, nil, 0, 0, true)
	expectRight(t, nil, math.MinInt, math.MinInt, true)
	expectRight(t, right()[:16], 2, 3, true)
	expectRight(t, right()[3:], 2, 3, true)
	for _, o := range right() {
		expectRight(t, []api.Op{o}, 2, 3, true)
	}
	for _, o := range wrong() {
		expectRight(t, []api.Op{o}, 2, 3, false)
		for k := range mostSteps {
			l := slices.Clone(right()[:mostSteps])
			l[k] = o
			expectRight(t, l, 2, 3, false)
		}
	}
}

// 22.1: a program has 16 steps at the most, whatever they are.
func TestRightOfSizes(t *testing.T) {
	for size := range 40 {
		for _, o := range right() {
			expectRight(t, slices.Repeat([]api.Op{o}, size), 2, 3, size <= mostSteps)
		}
		expectRight(t, make([]api.Op, size), 2, 3, size == 0)
	}
	expectRight(t, slices.Repeat([]api.Op{{Kind: join}}, 10000), 2, 3, false)
}

// 22.1: what a program may be hangs on how many nodes and programs there are, each on its own.
func TestRightOfNodes(t *testing.T) {
	for _, nodes := range few() {
		for _, programs := range few() {
			expectRight(t, []api.Op{op(work, 1, 0), op(spawn, 1, 2)}, nodes, programs, nodes >= 2 && programs >= 3)
			expectRight(t, []api.Op{op(spawn, 2, 0), op(spawn, 0, 1)}, nodes, programs, nodes >= 3 && programs >= 2)
			expectRight(t, []api.Op{op(work, 1, 0), op(join, 0, 0)}, nodes, programs, true)
		}
	}
}

// 22.1: all programs may be, wherever the wrong one stands.
func TestAll(t *testing.T) {
	expectAll(t, api.Config{}, true)
	expectAll(t, api.Config{Nodes: -1, Programs: [][]api.Op{}}, true)
	expectAll(t, api.Config{Programs: [][]api.Op{nil, {}, {op(join, 0, 0)}}}, true)
	expectAll(t, api.Config{Nodes: 2, Programs: [][]api.Op{right()[:16], nil, right()[3:]}}, true)
	for _, o := range wrong() {
		for k := range 3 {
			c := api.Config{Nodes: 2, Programs: [][]api.Op{{op(work, 1, 0)}, {}, {op(join, 0, 0), op(head, 0, 0)}}}
			c.Programs[k] = []api.Op{op(answer, 5, 0), o}
			expectAll(t, c, false)
		}
	}
	long := slices.Repeat([]api.Op{op(join, 0, 0)}, 17)
	expectAll(t, api.Config{Nodes: 2, Programs: [][]api.Op{nil, long}}, false)
	expectAll(t, api.Config{Nodes: 2, Programs: [][]api.Op{nil, long[:16]}}, true)
}

// 22.1: Nodes tells how many nodes there are, and the length of Programs how many programs; nothing else counts.
func TestAllOfNodes(t *testing.T) {
	for _, nodes := range few() {
		for _, o := range right() {
			for size := 1; size < 20; size++ {
				programs := make([][]api.Op, size)
				programs[size-1] = []api.Op{o}
				want := o.Kind != spawn || o.A < nodes && o.B < size
				expectAll(t, api.Config{Nodes: nodes, Programs: programs}, want)
				expectAll(t, api.Config{Nodes: nodes, Skew: 9, Lease: 9, Hops: 9, Cap: 9, Fan: 9, Attempts: 9, Tokens: 9, Programs: programs}, want)
			}
		}
	}
	expectAll(t, api.Config{Nodes: 1, Programs: [][]api.Op{{op(spawn, 0, 0)}}}, true)
	expectAll(t, api.Config{Nodes: 1, Programs: [][]api.Op{{op(spawn, 0, 1)}}}, false)
	expectAll(t, api.Config{Nodes: 1, Programs: [][]api.Op{{op(spawn, 0, 1)}, nil}}, true)
}

// 22.1: a step has one unit, but of a Work there are as many as it tells, from none to 1000.
func TestUnits(t *testing.T) {
	expectUnits(t, nil, 0)
	expectUnits(t, []api.Op{}, 0)
	for _, kind := range kinds() {
		for _, n := range numbers() {
			want := 1
			if kind == work {
				want = held(n, 0, mostWork)
			}
			for _, b := range []int{-5, 0, 7} {
				expectUnits(t, []api.Op{op(kind, n, b)}, want)
				expectUnits(t, []api.Op{op(join, 0, 0), op(kind, n, b), op(work, 2, 0)}, want+3)
			}
		}
	}
}

// 22.1: units are summed, however many steps there are.
func TestUnitsOfSizes(t *testing.T) {
	for _, size := range []int{0, 1, 15, 16, 17, 1000} {
		expectUnits(t, slices.Repeat([]api.Op{op(work, 3, 0)}, size), 3*size)
		expectUnits(t, slices.Repeat([]api.Op{op(work, math.MaxInt, 0)}, size), 1000*size)
		expectUnits(t, slices.Repeat([]api.Op{op(work, math.MinInt, 0)}, size), 0)
		expectUnits(t, slices.Repeat([]api.Op{op(work, 0, 0), op(head, 0, 0)}, size), size)
		expectUnits(t, make([]api.Op, size), size)
	}
	expectUnits(t, []api.Op{op(work, -5, 0), op(work, 9999, 0)}, 1000)
	expectUnits(t, []api.Op{op(work, 2, 0), op(spawn, 1, 0), op(spawn, 1, 1), op(join, 0, 0), op(answer, 5, 0)}, 6)
}

// 22.2: each kind's word, and its numbers.
func TestText(t *testing.T) {
	for want, l := range map[string][]api.Op{
		"":                          nil,
		"work 3":                    {op(work, 3, 0)},
		"spawn 1 2":                 {op(spawn, 1, 2)},
		"join":                      {op(join, 0, 0)},
		"head":                      {op(head, 0, 0)},
		"answer 5":                  {op(answer, 5, 0)},
		"fail 14":                   {op(fail, 14, 0)},
		"refuse -1":                 {op(refuse, -1, 0)},
		"work 2; answer 5":          {op(work, 2, 0), op(answer, 5, 0)},
		"spawn 0 0; join; head":     {op(spawn, 0, 0), op(join, 0, 0), op(head, 0, 0)},
		"answer 2147483647; work 1": {op(answer, mostValue, 0), op(work, 1, 0)},
	} {
		expectText(t, l, want)
	}
	expectText(t, []api.Op{}, "")
}

// 22.2: also what may not be is told, with its numbers as they are; what a step has not is not told.
func TestTextOfNumbers(t *testing.T) {
	for _, n := range numbers() {
		s := strconv.Itoa(n)
		for _, b := range numbers() {
			expectText(t, []api.Op{op(work, n, b)}, "work "+s)
			expectText(t, []api.Op{op(spawn, n, b)}, "spawn "+s+" "+strconv.Itoa(b))
			expectText(t, []api.Op{op(join, n, b)}, "join")
			expectText(t, []api.Op{op(head, n, b)}, "head")
			expectText(t, []api.Op{op(answer, n, b)}, "answer "+s)
			expectText(t, []api.Op{op(fail, n, b)}, "fail "+s)
			expectText(t, []api.Op{op(refuse, n, b)}, "refuse "+s)
		}
	}
	expectText(t, []api.Op{op(work, math.MinInt, 0), op(spawn, math.MaxInt, -1)}, "work -9223372036854775808; spawn 9223372036854775807 -1")
}

// 22.2: with a kind that is none there is no text, wherever it stands.
func TestTextOfKinds(t *testing.T) {
	for _, kind := range kinds() {
		if kind >= work && kind <= refuse {
			continue
		}
		expectText(t, []api.Op{op(kind, 1, 1)}, "")
		for k := range right() {
			l := right()
			l[k].Kind = kind
			expectText(t, l, "")
		}
	}
}

// 22.2: however many steps there are, they are told.
func TestTextOfSizes(t *testing.T) {
	for _, size := range []int{1, 2, 16, 17, 18, 1000} {
		expectText(t, slices.Repeat([]api.Op{op(join, 0, 0)}, size), strings.Repeat("join; ", size-1)+"join")
		expectText(t, slices.Repeat([]api.Op{op(work, 1001, 0)}, size), strings.Repeat("work 1001; ", size-1)+"work 1001")
	}
}

// 22.2: a text that tells a program is read.
func TestParse(t *testing.T) {
	expectParsed(t, "", 2, 3, nil)
	for s, want := range map[string][]api.Op{
		"work 1":                      {op(work, 1, 0)},
		"work 1000":                   {op(work, 1000, 0)},
		"spawn 1 2":                   {op(spawn, 1, 2)},
		"spawn 0 0":                   {op(spawn, 0, 0)},
		"join":                        {op(join, 0, 0)},
		"head":                        {op(head, 0, 0)},
		"answer 0":                    {op(answer, 0, 0)},
		"answer 2147483647":           {op(answer, mostValue, 0)},
		"fail 1":                      {op(fail, 1, 0)},
		"fail 16":                     {op(fail, 16, 0)},
		"refuse -1":                   {op(refuse, -1, 0)},
		"refuse 0":                    {op(refuse, 0, 0)},
		"refuse 1000000":              {op(refuse, mostWait, 0)},
		"work 2; answer 5":            {op(work, 2, 0), op(answer, 5, 0)},
		"join; join; head; spawn 1 0": {op(join, 0, 0), op(join, 0, 0), op(head, 0, 0), op(spawn, 1, 0)},
	} {
		expectParsed(t, s, 2, 3, want)
	}
}

// 22.2: a program without a step may be among however many nodes and programs.
func TestParseOfNothing(t *testing.T) {
	for _, nodes := range few() {
		for _, programs := range few() {
			expectParsed(t, "", nodes, programs, nil)
		}
	}
}

// 22.2: what is no program's text is refused, alone, and ahead of and behind steps that are right.
func TestParseOfWrongTexts(t *testing.T) {
	for _, s := range []string{
		" ", "  ", ";", "; ", ";;", "; ; ", "\n", "\t", "\x00", "\xff", "nothing", "Work 5", "WORK 5", "wor 5", "works 5", "work5", "5 work", "5", "-1", "0",
		"work", "work ", " work 5", "work  5", "work 5 ", "work 5  ", "work 5\n", "work\t5", "work 5 0", "work 5 1", "work 05", "work 00", "work +5", "work 5.0", "work 5e0",
		"work 0x5", "work 1_0", "work -", "work --5", "work five", "work ٥", "work 5,", "work 5;", "work 5; ", "work 5 ;join", "work 5;join", "work 5 ; join", "work 5;  join",
		"work 5, join", "work 5;; join", "work 5; ; join", "; work 5", "work 5; join;", "work 5; join; ",
		"spawn", "spawn ", "spawn 0", "spawn 0 ", "spawn  0", "spawn 0  0", "spawn 0 0 ", "spawn 0 0 0", "spawn 00 0", "spawn 0 00", "spawn -0 0", "spawn 0 -0", "spawn 0,0", "spawn 0 x", "spawn x 0",
		"join 0", "join ", "join 0 0", "join 1", "joi", "joinn", "head 0", "head ", "head -0", "answer", "answer ", "answer -0", "answer 00", "answer 0 0", "answer 1 2",
		"fail", "fail 01", "fail +1", "fail UNAVAILABLE", "fail 1 1", "refuse", "refuse -01", "refuse - 1", "refuse +0", "refuse -0", "refuse -1 0",
	} {
		expectRefused(t, s, 2, 3)
		expectRefused(t, s, 64, 16)
		expectRefused(t, s+"; join", 2, 3)
		expectRefused(t, "join; "+s, 2, 3)
		expectRefused(t, "work 1; "+s+"; head", 2, 3)
	}
}

// 22.2: numbers that a step may not have are refused, however great they are.
func TestParseOfWrongNumbers(t *testing.T) {
	for _, s := range []string{
		"work 0", "work -1", "work 1001", "work 4294967297", "spawn 2 0", "spawn 0 3", "spawn -1 0", "spawn 0 -1", "spawn 4294967296 0", "spawn 0 4294967296", "answer -1",
		"answer 2147483648", "answer 4294967296", "fail 0", "fail 17", "fail -1", "fail 4294967297", "refuse -2", "refuse 1000001", "refuse 4294967295",
	} {
		expectRefused(t, s, 2, 3)
		expectRefused(t, "join; "+s, 2, 3)
		expectRefused(t, s+"; join", 2, 3)
	}
	for _, n := range []string{
		"9223372036854775807", "9223372036854775808", "-9223372036854775808", "-9223372036854775809", "18446744073709551615", "18446744073709551616", "18446744073709551617",
		"18446744073709551621", strings.Repeat("9", 400), strings.Repeat("0", 400) + "1", "1" + strings.Repeat("0", 400),
	} {
		for _, word := range []string{"work ", "answer ", "fail ", "refuse "} {
			expectRefused(t, word+n, 2, 3)
		}
		expectRefused(t, "spawn "+n+" 0", 2, 3)
		expectRefused(t, "spawn 0 "+n, 2, 3)
	}
}

// 22.2: what is read hangs on how many nodes and programs there are, each on its own.
func TestParseOfNodes(t *testing.T) {
	for _, nodes := range few() {
		for _, programs := range few() {
			for _, o := range []api.Op{op(spawn, 0, 0), op(spawn, 1, 0), op(spawn, 0, 1), op(spawn, 1, 2), op(spawn, 2, 1), op(spawn, 63, 15), op(spawn, 64, 16), op(work, 1, 0)} {
				l := []api.Op{op(join, 0, 0), o}
				if may(o, nodes, programs) {
					expectParsed(t, told(l), nodes, programs, l)
				} else {
					expectRefused(t, told(l), nodes, programs)
				}
			}
		}
	}
}

// 22.2: 16 steps are read, and no more.
func TestParseOfSizes(t *testing.T) {
	for _, o := range right() {
		for size := 1; size <= 20; size++ {
			l := slices.Repeat([]api.Op{o}, size)
			if size <= mostSteps {
				expectParsed(t, told(l), 2, 3, l)
			} else {
				expectRefused(t, told(l), 2, 3)
			}
		}
	}
	expectRefused(t, strings.Repeat("join; ", 100000)+"join", 2, 3)
	expectRefused(t, strings.Repeat("; ", 100000), 2, 3)
	expectRefused(t, strings.Repeat(" ", 100000), 2, 3)
}

// 22.2: one byte taken away, put in, or changed makes another program's text, or none.
func TestParseOfSpoiltTexts(t *testing.T) {
	const text = "work 12; spawn 1 2; join; head; fail 14; refuse -1; answer 5"
	expect := func(s string) {
		t.Helper()
		if l, e := program.Parse(s, 2, 3); e == api.OK && (told(l) != s || len(l) > mostSteps || !onlyRight(l, 2, 3)) {
			t.Errorf("Parse(%q) = %v", s, l)
		} else if e != api.OK && (e != api.ErrText || l != nil) {
			t.Errorf("Parse(%q) = %v, %v", s, l, e)
		}
	}
	for k := range len(text) {
		expect(text[:k])
		expect(text[k:])
		expect(text[:k] + text[k+1:])
		for c := range 256 {
			expect(text[:k] + string([]byte{byte(c)}) + text[k:])
			expect(text[:k] + string([]byte{byte(c)}) + text[k+1:])
		}
	}
}

// onlyRight is whether each step may be.
func onlyRight(l []api.Op, nodes, programs int) bool {
	for _, o := range l {
		if !may(o, nodes, programs) {
			return false
		}
	}
	return true
}

// 22.3: whatever may be is parsed as it was told, at all edges.
func TestParsedAsTold(t *testing.T) {
	for _, a := range right() {
		expectText(t, []api.Op{a}, told([]api.Op{a}))
		expectParsed(t, program.Text([]api.Op{a}), 2, 3, []api.Op{a})
		for _, b := range right() {
			for _, c := range right() {
				l := []api.Op{a, b, c}
				expectParsed(t, program.Text(l), 2, 3, l)
			}
		}
	}
}

// 22.1 to 22.3: by the rule, whatever the steps are; programs that may be are parsed as they were told, others are not.
func TestByTheRule(t *testing.T) {
	r := rand.New(rand.NewSource(22))
	for range 20000 {
		nodes, programs := 1+r.Intn(64), 1+r.Intn(16)
		l := steps(r, nodes, programs)
		expectRight(t, l, nodes, programs, true)
		expectText(t, l, told(l))
		expectParsed(t, told(l), nodes, programs, l)
		if len(l) == 0 {
			continue
		}
		k := r.Intn(len(l))
		l[k] = api.Op{Kind: r.Intn(10) - 1, A: int(r.Uint64()) >> r.Intn(64), B: int(r.Uint64()) >> r.Intn(64) * r.Intn(2)}
		fits := may(l[k], nodes, programs)
		expectOp(t, l[k], nodes, programs, fits)
		expectRight(t, l, nodes, programs, fits)
		expectText(t, l, told(l))
		if s := told(l); !fits && s != "" && l[k].B == 0 && l[k].Kind != join && l[k].Kind != head {
			expectRefused(t, s, nodes, programs)
		}
	}
}

// 22.1, 22.2: a step with a number that it has not is told as one that may be, which is the one that is read.
func TestToldWithoutWhatItHasNot(t *testing.T) {
	for _, o := range right() {
		if o.Kind == spawn {
			continue
		}
		spoilt := o
		spoilt.B = 9
		expectRight(t, []api.Op{spoilt}, 2, 3, false)
		expectParsed(t, program.Text([]api.Op{spoilt}), 2, 3, []api.Op{o})
	}
}

// R4: what is handed in stays, nor is what lies behind it read; what is answered can be changed.
func TestMemory(t *testing.T) {
	l := append(right()[:16], wrong()...)
	kept := slices.Clone(l)
	expectRight(t, l[:16], 2, 3, true)
	expectText(t, l[:16], told(kept[:16]))
	expectUnits(t, l[:2], 3)
	expectAll(t, api.Config{Nodes: 2, Programs: [][]api.Op{l[:16], nil, l[2:10], {op(fail, 0, 0)}}[:3]}, true)
	if !slices.Equal(l, kept) {
		t.Errorf("%v, not %v", l, kept)
	}
	got, _ := program.Parse("work 2; answer 5", 2, 3)
	got[0].A = 7
	expectParsed(t, "work 2; answer 5", 2, 3, []api.Op{op(work, 2, 0), op(answer, 5, 0)})
}

// R5: what is asked twice is answered twice the same.
func TestSameAgain(t *testing.T) {
	r := rand.New(rand.NewSource(5))
	for range 200 {
		l := steps(r, 3, 3)
		first, second := program.Text(l), program.Text(l)
		if first != second || program.Units(l) != program.Units(l) {
			t.Error(l)
		}
	}
}

// The chapter's example, and the one of the whole.
func TestExample(t *testing.T) {
	l, e := program.Parse("work 3; spawn 1 2; join; answer 5", 2, 3)
	if e != api.OK || program.Units(l) != 6 || program.Text(l) != "work 3; spawn 1 2; join; answer 5" {
		t.Error(l, e)
	}
	expectParsed(t, "work 2; answer 5", 1, 1, []api.Op{{Kind: api.Work, A: 2}, {Kind: api.Answer, A: 5}})
}
