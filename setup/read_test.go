package setup_test

import (
	"strconv"
	"strings"
	"testing"

	"hourglass/api"
	"hourglass/setup"
)

// expectRead asks that this configuration be read, and no line be wrong.
func expectRead(t *testing.T, s string, want api.Config) {
	t.Helper()
	if got, at, e := setup.Read(s); e != api.OK || at != 0 || !equal(got, want) {
		t.Errorf("Read(%q) = %v, %d, %v, not %v", s, got, at, e, want)
	}
}

// expectWrong asks that this line be the first wrong one; it is 0, if none is, but what they come to.
func expectWrong(t *testing.T, s string, line int, want api.Errno) {
	t.Helper()
	got, at, e := setup.Read(s)
	if e != want || at != line || numbersOf(got) != [13]int{} || len(got.Programs) != 0 {
		t.Errorf("Read(%q) = %v, %d, %v, not %d, %v", s, got, at, e, line, want)
	}
}

// empty is a list of so many programs without steps.
func empty(n int) [][]api.Op { return make([][]api.Op, n) }

// others are numbers that the settings may have, and none of the first configuration's.
func others() [13]int {
	return [13]int{5, 6, 7, 3, 9, 11, 12, 3, 2, 15, 60, 77, 88}
}

// least and greatest are the numbers that the settings may have at the edges.
func least() [13]int { return [13]int{1, 0, 1, 0, 1, 1, 1, 1, 1, 1, 1, 1, 1} }
func greatest() [13]int {
	return [13]int{64, 1000, 1000000, 6, 1000000, 16, 64, 8, 5, 1000000, 1000000, 1000000, 1000}
}

// made is the configuration of these numbers and programs.
func made(n [13]int, programs [][]api.Op) api.Config {
	c := numbered(n)
	c.Programs = programs
	return c
}

// 29.2: what is not set is as in the first configuration.
func TestRead(t *testing.T) {
	five := [][]api.Op{{{Kind: answer, A: 5}}}
	expectRead(t, "program", with(empty(1)))
	expectRead(t, "program\n", with(empty(1)))
	expectRead(t, "nodes 2\nskew 3\nprogram answer 5", with(five, 0, 2, 1, 3))
	expectRead(t, "program answer 5\nskew 3\nnodes 2\n", with(five, 0, 2, 1, 3))
	expectRead(t, "program answer 5\nprogram\nprogram work 2; spawn 0 1; join\n", with(some()))
	expectRead(t, "program\nprogram\nprogram answer 5\nprogram", with([][]api.Op{nil, nil, five[0], nil}))
	expectRead(t, "program\n"+lines(firstNumbers()), with(empty(1)))
	expectRead(t, lines(others())+"program\n", made(others(), empty(1)))
	expectRead(t, lines(least())+"program", made(least(), empty(1)))
	expectRead(t, lines(greatest())+strings.Repeat("program\n", 16), made(greatest(), empty(16)))
	for k, w := range words() {
		n := others()[k]
		expectRead(t, "program\n"+w+" "+strconv.Itoa(n), with(empty(1), k, n))
	}
}

// 29.2: of each step the text is read, and no program's text is tied to the lines ahead.
func TestReadPrograms(t *testing.T) {
	all := []api.Op{{Kind: work, A: 1000}, {Kind: spawn, A: 1, B: 1}, {Kind: join}, {Kind: head}, {Kind: answer, A: 1<<31 - 1}, {Kind: fail, A: 16}, {Kind: refuse, A: -1}, {Kind: refuse, A: 1000000}}
	text := "program work 1000; spawn 1 1; join; head; answer 2147483647; fail 16; refuse -1; refuse 1000000\n"
	expectRead(t, text+"program\nnodes 2", with([][]api.Op{all, nil}, 0, 2))
	expectRead(t, "program head"+strings.Repeat("; head", 15), with([][]api.Op{{
		{Kind: head}, {Kind: head}, {Kind: head}, {Kind: head}, {Kind: head}, {Kind: head}, {Kind: head}, {Kind: head},
		{Kind: head}, {Kind: head}, {Kind: head}, {Kind: head}, {Kind: head}, {Kind: head}, {Kind: head}, {Kind: head},
	}}))
	// The last node, and the last program, that there can be.
	expectRead(t, "program spawn 63 15\n"+strings.Repeat("program\n", 15)+"nodes 64\n", with(append([][]api.Op{{{Kind: spawn, A: 63, B: 15}}}, empty(15)...), 0, 64))
}

// 29.2: lines that are empty, or begin with #, say nothing, whatever they say behind that.
func TestReadNothing(t *testing.T) {
	for _, s := range []string{
		"\nprogram", "program\n\n", "\n\n\nprogram\n\n\n", "#\nprogram", "program\n#", "program\n# nodes 2", "#nodes x\nprogram\n", "## # \nprogram",
		"# a mesh\nprogram\n#program", "#\x00\xff\nprogram", "# program \r\nprogram", "#" + strings.Repeat("x", 10000) + "\nprogram\n", strings.Repeat("\n", 10000) + "program", "program\n# fan 99\n",
	} {
		expectRead(t, s, with(empty(1)))
	}
	expectRead(t, "# a mesh\nfan 2\n\nnodes 3\nprogram\nprogram work 2; answer 5\ngrain 1",
		with([][]api.Op{nil, {{Kind: work, A: 2}, {Kind: answer, A: 5}}}, 7, 2, 0, 3, 3, 1))
}

// 29.2: a number has 1 to 7 digits, and no needless 0 ahead.
func TestReadNumbers(t *testing.T) {
	expectRead(t, "program\nskew 0", with(empty(1), 1, 0))
	expectRead(t, "program\nskew 9", with(empty(1), 1, 9))
	expectRead(t, "program\nskew 10", with(empty(1), 1, 10))
	expectRead(t, "program\nlease 123456", with(empty(1), 2, 123456))
	expectRead(t, "program\nlease 987650", with(empty(1), 2, 987650))
	expectRead(t, "program\nwait 1000000", with(empty(1), 11, 1000000))
	// These may be read, but a configuration has none of them.
	for _, n := range []string{"1000001", "9999999", "1234567", "0"} {
		expectWrong(t, "program\nwait "+n, 0, api.ErrArg)
	}
	for _, n := range []string{
		"", " ", "00", "01", "007", "0000001", "10000000", "12345678", "00000000", "99999999999999999999999", "18446744073709551617", "4294967297",
		"-1", "-0", "+1", "-", "+", "1.", "1.0", "1e3", "0x1", "1_0", "1,0", "a", "x1", "1x", "1 ", " 1", "1\t", "\t1", "1 1", "1 2", "1\r", "1\x00", "\x00", "\x001",
		"1:", "1/", ":", "/", "\u0661", "\uff11", "1\u0661", "\xff", "1\xff", "1\xc0\xb1", "\u00b2", "#", "1#", "1 # one", "one",
	} {
		for _, w := range words() {
			expectWrong(t, "program\n"+w+" "+n, 2, api.ErrText)
			expectWrong(t, w+" "+n+"\nprogram\n", 1, api.ErrText)
		}
	}
}

// wrongLines are lines that say nothing that is known.
func wrongLines() []string {
	return []string{
		" ", "  ", "\t", "\r", "\x00", "\xff", " #", " # x", "\t#", "x", "x 1", "node 1", "nodess 1", "skews 1", "nod 1", "n 1", "1", "0", "1 nodes", " 1",
		"Nodes 1", "NODES 1", "nodes", "nodes ", "nodes  1", " nodes 1", "nodes\t1", "nodes=1", "nodes:1", "nodes1", "nodes 1 ", "nodes 1 1", "nodes 1; skew 1", "nodes 1,", "\xef\xbb\xbfnodes 1",
		"skew", "lease", "grain", "least", "hops", "cap", "fan", "attempts", "base", "most", "wait", "tokens", "programs 1", "seed 1", "width 2",
		"program ", "program  ", "program\t", "program\r", "Program", "PROGRAM", "programs", "progra", " program", "program\x00", "program;", "program; head", "program #", "program # head", "programhead",
		"program 1", "program 0", "program  head", "program head ", "program head;", "program head; ", "program ; head", "program head;head", "program head;  head", "program head\t", "program Head", "program head\r",
		"program work", "program work 0", "program work 1001", "program work 01", "program work -1", "program work 1 1", "program join 1", "program head 0", "program answer", "program answer -1", "program answer 2147483648",
		"program fail 0", "program fail 17", "program fail -1", "program refuse -2", "program refuse 1000001", "program refuse -0", "program spawn 0", "program spawn 64 0", "program spawn 0 16", "program spawn -1 0", "program spawn 0 -1", "program spawn 0 0 0",
		"program head" + strings.Repeat("; head", 16), "program program", "program nodes 1", "program skip", "program \xff",
	}
}

// 29.2: such a line is wrong wherever it stands, and the lines behind it do not matter.
func TestReadWrongLines(t *testing.T) {
	for _, l := range wrongLines() {
		expectWrong(t, l, 1, api.ErrText)
		expectWrong(t, l+"\n", 1, api.ErrText)
		expectWrong(t, "program\n"+l, 2, api.ErrText)
		expectWrong(t, l+"\nprogram", 1, api.ErrText)
		expectWrong(t, "# x\n\nfan 2\nprogram\n"+l+"\ncap 2\n", 5, api.ErrText)
		expectWrong(t, "\n\n\n"+l+"\nx\nskew 1\nskew 1\n", 4, api.ErrText)
		expectWrong(t, "program\n"+strings.Repeat("\n", 1000)+l, 1002, api.ErrText)
	}
	// What stands behind a wrong line is not looked at; what stands ahead of one is.
	expectWrong(t, "program\nskew 1\nskew 2\nx", 3, api.ErrTwice)
	expectWrong(t, "program\nskew 1\nx\nskew 2", 3, api.ErrText)
	// A wrong line goes ahead of what all lines come to.
	expectWrong(t, "nodes 65\nx", 2, api.ErrText)
	expectWrong(t, "x", 1, api.ErrText)
	expectWrong(t, "base 200\nmost 100\nbase 100", 3, api.ErrTwice)
}

// 29.2: a setting is set once, to whatever number; programs may be many.
func TestReadTwice(t *testing.T) {
	for k, w := range words() {
		n := strconv.Itoa(others()[k])
		l := w + " " + n + "\n"
		expectWrong(t, l+l, 2, api.ErrTwice)
		expectWrong(t, "program\n"+l+l+"program", 3, api.ErrTwice)
		expectWrong(t, l+"program\n\n# x\n"+w+" 1", 5, api.ErrTwice)
		expectWrong(t, l+l+l, 2, api.ErrTwice)
		// The first configuration's numbers, and those that may not be, are numbers, too;
		expectWrong(t, "program\n"+w+" "+strconv.Itoa(firstNumbers()[k])+"\n"+l, 3, api.ErrTwice)
		expectWrong(t, "program\n"+w+" 0\n"+w+" 0", 3, api.ErrTwice)
		expectWrong(t, "program\n"+w+" 9999999\n"+w+" 9999999", 3, api.ErrTwice)
		// what is no number sets nothing again.
		expectWrong(t, l+w+" 01", 2, api.ErrText)
		expectWrong(t, l+w, 2, api.ErrText)
		expectWrong(t, l+w+" ", 2, api.ErrText)
		expectWrong(t, l+w+" 1 ", 2, api.ErrText)
		expectWrong(t, l+w+" -1", 2, api.ErrText)
		// What stands behind # was not set.
		expectRead(t, "#"+l+l+"# "+l+"program", with(empty(1), k, others()[k]))
		for _, other := range words() {
			if other != w {
				expectWrong(t, "program\n"+l+other+" 1\n"+l, 4, api.ErrTwice)
			}
		}
	}
	all := lines(others())
	expectWrong(t, all+all, 14, api.ErrTwice)
	expectWrong(t, all+"tokens 88", 14, api.ErrTwice)
}

// 29.2: lines none of which is wrong may yet come to a configuration that may not be.
func TestReadRefused(t *testing.T) {
	for _, s := range []string{
		"", "\n", "#", "# program", "nodes 1", lines(others()), "\n\n\n",
		"program\nnodes 65", "program\nnodes 0", "program\nskew 1001", "program\nlease 0", "program\nlease 1000001", "program\ngrain 7", "program\nleast 0", "program\nleast 1000001",
		"program\nhops 0", "program\nhops 17", "program\ncap 0", "program\ncap 65", "program\nfan 0", "program\nfan 9", "program\nattempts 0", "program\nattempts 6",
		"program\nbase 0", "program\nbase 1000001\nmost 1000001", "program\nmost 0", "program\nmost 1000001", "program\nwait 0", "program\nwait 1000001", "program\ntokens 0", "program\ntokens 1001",
		"program\nbase 101", "program\nmost 9", "program\nbase 61\nmost 60", "program\nnodes 9999999",
		strings.Repeat("program\n", 17), strings.Repeat("program\n", 1000), strings.Repeat("program answer 1\n", 18),
		// There is one node, and one program, if nothing else is said.
		"program spawn 1 0", "program spawn 0 1", "program spawn 63 15", "program\nprogram spawn 0 2", "nodes 3\nprogram spawn 3 0", "nodes 63\nprogram spawn 63 0", "program spawn 1 1\nprogram",
		"program head\nprogram spawn 0 1\nprogram spawn 1 0", "program spawn 0 15\n" + strings.Repeat("program\n", 14),
	} {
		expectWrong(t, s, 0, api.ErrArg)
	}
	// Right beside these, all is well.
	for _, s := range []string{
		"program\nnodes 64", "program\nskew 1000", "program\nlease 1", "program\ngrain 6", "program\nhops 16", "program\ncap 64", "program\nfan 8", "program\nattempts 5", "program\nbase 100", "program\nmost 10",
		"program\nmost 1000000\nbase 1000000", "program\ntokens 1000", "program spawn 0 0", "nodes 2\nprogram spawn 1 0", "program spawn 1 0\nnodes 2", "program spawn 0 1\nprogram", "program\nprogram spawn 0 1",
		strings.Repeat("program\n", 16), "program spawn 0 15\n" + strings.Repeat("program\n", 15), "program\nbase 61\nmost 61", "program\nmost 61\nbase 61",
	} {
		if _, at, e := setup.Read(s); e != api.OK || at != 0 {
			t.Errorf("Read(%q) = %d, %v", s, at, e)
		}
	}
}

// R5: what was read changes nothing of what is read next, even if it is changed.
func TestReadAgain(t *testing.T) {
	s := "nodes 2\nprogram work 2; spawn 1 0\nprogram answer 5\n"
	want := with([][]api.Op{{{Kind: work, A: 2}, {Kind: spawn, A: 1}}, {{Kind: answer, A: 5}}}, 0, 2)
	for range 3 {
		c, _, _ := setup.Read(s)
		if !equal(c, want) {
			t.Fatalf("Read(%q) = %v", s, c)
		}
		c.Nodes, c.Programs[0][0].A, c.Programs[1] = 9, 9, nil
		expectWrong(t, s+s, 4, api.ErrTwice)
		expectWrong(t, "nodes 9\nx", 2, api.ErrText)
	}
}
