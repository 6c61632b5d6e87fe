package ident_test

import (
	"math"
	"regexp"
	"slices"
	"strconv"
	"strings"
	"testing"

	"hourglass/api"
	"hourglass/bytes"
	"hourglass/ident"
)

// The greatest ones, written out.
const (
	lastNode = 63
	lastInc  = 65535
	lastSeq  = 16777215
	lastAtt  = 5
)

// Parts that may be, and those that may not, around each edge and far off.
var (
	nodes  = []int{0, 1, 2, 5, 9, 10, 31, 62, 63}
	incs   = []int{0, 1, 9, 10, 255, 256, 258, 32768, 65534, 65535}
	seqs   = []int{1, 2, 9, 10, 17, 255, 256, 65535, 65536, 65537, 99999, 16777214, 16777215}
	atts   = []int{0, 1, 2, 3, 4, 5}
	far    = []int{-1, -2, -10, -63, -256, math.MinInt32, math.MinInt, math.MinInt + 1, 1 << 32, 1<<32 + 1, 1 << 56, 1<<56 + 1, math.MaxInt - 1, math.MaxInt}
	noNode = append([]int{64, 65, 100, 255, 256, 257}, far...)
	noInc  = append([]int{65536, 65537, 100000, 1 << 24}, far...)
	noSeq  = append([]int{0, 16777216, 16777217, 1<<24 + 256}, far...)
	noAtt  = append([]int{6, 7, 255, 256, 257}, far...)
)

func id(node, inc, seq int) api.Id {
	return api.Id{Node: node, Inc: inc, Seq: seq}
}

func key(node, inc, seq, att int) api.Key {
	return api.Key{Id: id(node, inc, seq), Att: att}
}

// rightIds are identities that may be.
func rightIds() []api.Id {
	var l []api.Id
	for _, node := range nodes {
		for _, inc := range incs {
			for _, seq := range seqs {
				l = append(l, id(node, inc, seq))
			}
		}
	}
	return l
}

// wrongIds are identities that may not be, for one part of them, two, or all three.
func wrongIds() []api.Id {
	l := []api.Id{{}}
	for _, node := range noNode {
		l = append(l, id(node, 0, 1), id(node, lastInc, lastSeq), id(node, 258, 17))
	}
	for _, inc := range noInc {
		l = append(l, id(0, inc, 1), id(lastNode, inc, lastSeq), id(3, inc, 17))
	}
	for _, seq := range noSeq {
		l = append(l, id(0, 0, seq), id(lastNode, lastInc, seq), id(3, 258, seq), id(64, 0, seq), id(0, 65536, seq), id(-1, -1, seq))
	}
	return l
}

// rightKeys are keys that may be.
func rightKeys() []api.Key {
	var l []api.Key
	for _, d := range rightIds() {
		for _, att := range atts {
			l = append(l, api.Key{Id: d, Att: att})
		}
	}
	return l
}

// wrongKeys are keys that may not be, for their identities, or for their attempts.
func wrongKeys() []api.Key {
	var l []api.Key
	for _, d := range wrongIds() {
		for _, att := range append([]int{-1, 6}, atts...) {
			l = append(l, api.Key{Id: d, Att: att})
		}
	}
	for _, att := range noAtt {
		l = append(l, key(0, 0, 1, att), key(lastNode, lastInc, lastSeq, att), key(3, 258, 17, att))
	}
	return l
}

// 7.1: the limits.
func TestLimits(t *testing.T) {
	if ident.MaxInc != lastInc || ident.MaxSeq != lastSeq {
		t.Error(ident.MaxInc, ident.MaxSeq)
	}
}

// 7.1: which may be.
func TestRight(t *testing.T) {
	for _, d := range rightIds() {
		if !ident.Right(d) {
			t.Errorf("%v may not be", d)
		}
	}
	for _, d := range wrongIds() {
		if ident.Right(d) {
			t.Errorf("%v may be", d)
		}
	}
	for _, k := range rightKeys() {
		if !ident.Key(k) {
			t.Errorf("%v may not be", k)
		}
	}
	for _, k := range wrongKeys() {
		if ident.Key(k) {
			t.Errorf("%v may be", k)
		}
	}
}

// 7.1: each part at its edges, the others being in the midst.
func TestRightAtTheEdges(t *testing.T) {
	for n := -300; n <= 300; n++ {
		if got := ident.Right(id(n, 5, 5)); got != (n >= 0 && n <= lastNode) {
			t.Errorf("with the node %d: %t", n, got)
		}
		if got := ident.Right(id(5, n, 5)); got != (n >= 0) {
			t.Errorf("with the incarnation %d: %t", n, got)
		}
		if got := ident.Right(id(5, lastInc+n, 5)); got != (n <= 0) {
			t.Errorf("with the incarnation %d: %t", lastInc+n, got)
		}
		if got := ident.Right(id(5, 5, n)); got != (n >= 1) {
			t.Errorf("with the number %d: %t", n, got)
		}
		if got := ident.Right(id(5, 5, lastSeq+n)); got != (n <= 0) {
			t.Errorf("with the number %d: %t", lastSeq+n, got)
		}
		if got := ident.Key(key(5, 5, 5, n)); got != (n >= 0 && n <= lastAtt) {
			t.Errorf("with the attempt %d: %t", n, got)
		}
	}
}

// 7.1: what stands ahead of what, written out.
func TestCompare(t *testing.T) {
	for _, c := range []struct {
		a, b api.Id
		want int
	}{
		{id(3, 0, 17), id(3, 0, 17), 0},
		{id(0, 0, 0), id(0, 0, 0), 0},
		{id(3, 0, 16), id(3, 0, 17), -1},
		{id(3, 0, 9), id(3, 0, 10), -1},
		{id(3, 1, 1), id(3, 0, 17), 1},
		{id(3, 9, 99), id(3, 10, 1), -1},
		{id(4, 0, 1), id(3, 65535, 16777215), 1},
		{id(2, 65535, 16777215), id(10, 0, 1), -1},
		{id(math.MinInt, 0, 1), id(math.MaxInt, 0, 1), -1},
		{id(math.MaxInt, 0, 1), id(-2, 0, 1), 1},
		{id(0, math.MaxInt, 1), id(0, math.MinInt, 1), 1},
		{id(0, 0, math.MinInt), id(0, 0, 1), -1},
		{id(0, 0, math.MinInt), id(0, 0, math.MinInt), 0},
	} {
		if got := ident.Compare(c.a, c.b); got != c.want {
			t.Errorf("Compare(%v, %v) = %d, not %d", c.a, c.b, got, c.want)
		}
		if got := ident.Compare(c.b, c.a); got != -c.want {
			t.Errorf("Compare(%v, %v) = %d, not %d", c.b, c.a, got, -c.want)
		}
		for _, atts := range [][2]int{{0, 0}, {1, 5}, {5, 1}, {math.MinInt, math.MaxInt}, {math.MaxInt, -2}} {
			want := c.want
			if want == 0 && atts[0] != atts[1] {
				want = 1
				if atts[0] < atts[1] {
					want = -1
				}
			}
			a, b := api.Key{Id: c.a, Att: atts[0]}, api.Key{Id: c.b, Att: atts[1]}
			if got := ident.Keys(a, b); got != want {
				t.Errorf("Keys(%v, %v) = %d, not %d", a, b, got, want)
			}
			if got := ident.Keys(b, a); got != -want {
				t.Errorf("Keys(%v, %v) = %d, not %d", b, a, got, -want)
			}
		}
	}
}

// modelOrder holds lists of numbers against each other, the first ones first.
func modelOrder(a, b api.Key) int {
	return slices.Compare([]int{a.Id.Node, a.Id.Inc, a.Id.Seq, a.Att}, []int{b.Id.Node, b.Id.Inc, b.Id.Seq, b.Att})
}

// fewKeys are keys of few numbers, those that may not be too.
func fewKeys() []api.Key {
	var l []api.Key
	few := []int{math.MinInt, -1, 0, 7, math.MaxInt}
	for _, node := range few {
		for _, inc := range few {
			for _, seq := range few {
				for _, att := range few {
					l = append(l, key(node, inc, seq, att))
				}
			}
		}
	}
	return l
}

// 7.1: as the model, those that may not be too.
func TestCompareAsTheModel(t *testing.T) {
	for _, a := range fewKeys() {
		for _, b := range fewKeys() {
			if got, want := ident.Keys(a, b), modelOrder(a, b); got != want {
				t.Errorf("Keys(%v, %v) = %d, not %d", a, b, got, want)
			}
			if got, want := ident.Compare(a.Id, b.Id), modelOrder(api.Key{Id: a.Id}, api.Key{Id: b.Id}); got != want {
				t.Errorf("Compare(%v, %v) = %d, not %d", a.Id, b.Id, got, want)
			}
		}
	}
}

// 7.1: texts of those that may be, and of those that may not.
func TestText(t *testing.T) {
	for _, c := range []struct {
		k       api.Key
		text    string
		keyText string
	}{
		{key(3, 0, 17, 2), "3.0.17", "3.0.17/2"},
		{key(0, 0, 1, 0), "0.0.1", "0.0.1/0"},
		{key(63, 65535, 16777215, 5), "63.65535.16777215", "63.65535.16777215/5"},
		{key(10, 100, 1000, 1), "10.100.1000", "10.100.1000/1"},
		{key(0, 0, 0, 0), "0.0.0", "0.0.0/0"},
		{key(-1, -20, -300, -4), "-1.-20.-300", "-1.-20.-300/-4"},
		{key(64, 65536, 16777216, 6), "64.65536.16777216", "64.65536.16777216/6"},
		{key(math.MinInt, math.MaxInt, math.MinInt, math.MaxInt), "-9223372036854775808.9223372036854775807.-9223372036854775808", "-9223372036854775808.9223372036854775807.-9223372036854775808/9223372036854775807"},
	} {
		if got := ident.Text(c.k.Id); got != c.text {
			t.Errorf("Text(%v) = %q, not %q", c.k.Id, got, c.text)
		}
		if got := ident.KeyText(c.k); got != c.keyText {
			t.Errorf("KeyText(%v) = %q, not %q", c.k, got, c.keyText)
		}
	}
}

// 7.1: texts that are those of identities that may be.
func TestParse(t *testing.T) {
	for s, want := range map[string]api.Id{
		"0.0.1": id(0, 0, 1), "3.0.17": id(3, 0, 17), "63.0.1": id(63, 0, 1), "0.65535.1": id(0, 65535, 1), "0.0.16777215": id(0, 0, 16777215),
		"63.65535.16777215": id(63, 65535, 16777215), "10.20.30": id(10, 20, 30), "9.99.999": id(9, 99, 999),
	} {
		if got, e := ident.Parse(s); got != want || e != api.OK {
			t.Errorf("Parse(%q) = %v, %v", s, got, e)
		}
	}
}

// 7.1: texts that are none of them.
func TestParseWrong(t *testing.T) {
	long := strings.Repeat("1", 100000)
	for _, s := range []string{
		"", ".", "..", "...", "0", "0.0", "0.0.", ".0.1", "0..1", "0.0.0", "0.0.1.", ".0.0.1", "0.0.1.1", "0.0.1..", "0.0..1", "1", "1.1",
		"64.0.1", "100.0.1", "0.65536.1", "0.100000.1", "0.0.16777216", "0.0.100000000", "-1.0.1", "0.-1.1", "0.0.-1", "-0.0.1", "0.-0.1", "0.0.-0",
		"+1.0.1", "0.+1.1", "0.0.+1", "00.0.1", "0.00.1", "0.0.01", "03.0.17", "3.00.17", "3.0.017", "3.0.17/2", "3.0.17/", "3/0/17", "3,0,17", "3 0 17",
		" 3.0.17", "3.0.17 ", "3. 0.17", "3 .0.17", "3.0.17\n", "\n3.0.17", "3.0.17\x00", "\x003.0.17", "3\x00.0.17", "3.0.1_7", "3.0_0.17", "0x3.0.17", "3.0.0x11", "3.0.1e1", "3.0.1.0", "a.b.c", "3.0.a", "3.a.17", "a.0.17",
		"3\u30020\u300217", "\u0663.0.17", "\uff13.0.17", "\xff.0.17", "3.0.17\xff",
		"256.0.1", "18446744073709551616.0.1", "18446744073709551619.0.17", "4294967299.0.17", "3.4294967296.17", "3.0.4294967313", "3.18446744073709551616.17", "3.0.18446744073709551633",
		"9223372036854775807.0.1", "9223372036854775808.0.1", "0.9223372036854775807.1", "0.0.9223372036854775807", "0.0.9223372036854775808", "-9223372036854775808.0.1", "-9223372036854775809.0.1",
		long, long + ".0.1", "0." + long + ".1", "0.0." + long, "0.0.1" + strings.Repeat(".", 100000), strings.Repeat(".", 100000) + "0.0.1", "0.0." + strings.Repeat("0", 100000) + "1",
	} {
		if got, e := ident.Parse(s); got != (api.Id{}) || e != api.ErrText {
			t.Errorf("Parse(%.40q) = %v, %v", s, got, e)
		}
	}
	for _, d := range wrongIds() {
		if got, e := ident.Parse(ident.Text(d)); got != (api.Id{}) || e != api.ErrText {
			t.Errorf("Parse(%q) = %v, %v", ident.Text(d), got, e)
		}
	}
	for _, k := range []api.Key{key(3, 0, 17, 2), key(0, 0, 1, 0), key(63, 65535, 16777215, 5)} {
		if got, e := ident.Parse(ident.KeyText(k)); got != (api.Id{}) || e != api.ErrText {
			t.Errorf("Parse(%q) = %v, %v", ident.KeyText(k), got, e)
		}
	}
}

var threeNumbers = regexp.MustCompile(`^(0|[1-9][0-9]{0,8})\.(0|[1-9][0-9]{0,8})\.([1-9][0-9]{0,8})$`)

// modelParse is what 7.1 says, by a pattern.
func modelParse(s string) (api.Id, api.Errno) {
	found := threeNumbers.FindStringSubmatch(s)
	if found == nil {
		return api.Id{}, api.ErrText
	}
	var n [3]int
	for i := range n {
		n[i], _ = strconv.Atoi(found[i+1])
	}
	if n[0] > lastNode || n[1] > lastInc || n[2] > lastSeq {
		return api.Id{}, api.ErrText
	}
	return id(n[0], n[1], n[2]), api.OK
}

// parsesAsTheModel asks both for a text's identity.
func parsesAsTheModel(t *testing.T, s string) {
	t.Helper()
	got, e := ident.Parse(s)
	if want, is := modelParse(s); got != want || e != is {
		t.Errorf("Parse(%q) = %v, %v, not %v, %v", s, got, e, want, is)
	}
}

// 7.1: as the model, of texts of which a byte is another one, is there besides, or is gone.
func TestParseAsTheModel(t *testing.T) {
	for _, s := range []string{"3.0.17", "0.0.1", "63.65535.16777215", "6.6553.1677721", "10.10.10"} {
		for i := range len(s) + 1 {
			parsesAsTheModel(t, s[:i])
			parsesAsTheModel(t, s[i:])
			for b := range 256 {
				more := string([]byte{byte(b)})
				parsesAsTheModel(t, s[:i]+more+s[i:])
				if i < len(s) {
					parsesAsTheModel(t, s[:i]+more+s[i+1:])
				}
			}
			for n := i + 1; n <= len(s); n++ {
				parsesAsTheModel(t, s[:i]+s[n:])
			}
		}
	}
}

// 7.1: as the model, of all short texts of few bytes.
func TestParseShort(t *testing.T) {
	texts := []string{""}
	for range 6 {
		var longer []string
		for _, s := range texts {
			parsesAsTheModel(t, s)
			for _, b := range []string{"0", "1", "9", ".", "-", "+"} {
				longer = append(longer, s+b)
			}
		}
		texts = longer
	}
}

// 7.2: bytes, written out, those of identities that may not be too: numbers that so few bytes do not tell have none.
func TestCode(t *testing.T) {
	for _, c := range []struct {
		k    api.Key
		want string
	}{
		{key(5, 258, 65537, 3), "\x05\x01\x02\x01\x00\x01\x03"},
		{key(3, 0, 17, 2), "\x03\x00\x00\x00\x00\x11\x02"},
		{key(0, 0, 1, 0), "\x00\x00\x00\x00\x00\x01\x00"},
		{key(63, 65535, 16777215, 5), "\x3f\xff\xff\xff\xff\xff\x05"},
		{key(1, 2, 3, 4), "\x01\x00\x02\x00\x00\x03\x04"},
		{key(0, 0, 0, 0), "\x00\x00\x00\x00\x00\x00\x00"},
		{key(64, 0, 1, 6), "\x40\x00\x00\x00\x00\x01\x06"},
		{key(255, 256, 256, 255), "\xff\x01\x00\x00\x01\x00\xff"},
		{key(256, 1, 2, 3), "\x00\x01\x00\x00\x02\x03"},
		{key(1, 65536, 2, 3), "\x01\x00\x00\x02\x03"},
		{key(1, 2, 16777216, 3), "\x01\x00\x02\x03"},
		{key(1, 2, 3, 256), "\x01\x00\x02\x00\x00\x03"},
		{key(-1, 2, 3, 4), "\x00\x02\x00\x00\x03\x04"},
		{key(1, -1, 3, -1), "\x01\x00\x00\x03"},
		{key(-1, -1, -1, 4), "\x04"},
		{key(math.MinInt, math.MaxInt, math.MinInt, math.MaxInt), ""},
	} {
		if got := ident.KeyCode(c.k); got != c.want {
			t.Errorf("KeyCode(%v) = %q, not %q", c.k, got, c.want)
		}
		withoutAtt := strings.TrimSuffix(c.want, bytes.Num(c.k.Att, 1))
		if got := ident.Code(c.k.Id); got != withoutAtt {
			t.Errorf("Code(%v) = %q, not %q", c.k.Id, got, withoutAtt)
		}
	}
}

// 7.2: as bytes tells it.
func TestCodeAsBytes(t *testing.T) {
	for _, k := range slices.Concat(rightKeys(), wrongKeys()) {
		want := bytes.Num(k.Id.Node, 1) + bytes.Num(k.Id.Inc, 2) + bytes.Num(k.Id.Seq, 3)
		if got := ident.Code(k.Id); got != want {
			t.Errorf("Code(%v) = %q, not %q", k.Id, got, want)
		}
		if got := ident.KeyCode(k); got != want+bytes.Num(k.Att, 1) {
			t.Errorf("KeyCode(%v) = %q", k, got)
		}
	}
}

// readsId reads an identity, and asks what it is, and what is wrong.
func readsId(t *testing.T, r *bytes.Reader, want api.Id, wrong api.Errno) {
	t.Helper()
	if got := ident.Read(r); got != want {
		t.Errorf("%v is read, not %v", got, want)
	}
	if e := r.End(); e != wrong {
		t.Errorf("%v is wrong, not %v", e, wrong)
	}
}

// readsKey reads a key likewise.
func readsKey(t *testing.T, r *bytes.Reader, want api.Key, wrong api.Errno) {
	t.Helper()
	if got := ident.ReadKey(r); got != want {
		t.Errorf("%v is read, not %v", got, want)
	}
	if e := r.End(); e != wrong {
		t.Errorf("%v is wrong, not %v", e, wrong)
	}
}

// 7.2: what may not be is wrong, whatever stands behind.
func TestReadWrong(t *testing.T) {
	for _, s := range []string{
		"\x40\x00\x00\x00\x00\x01", "\xff\xff\xff\xff\xff\xff", "\x00\x00\x00\x00\x00\x00", "\x3f\xff\xff\x00\x00\x00", "\x80\x01\x02\x00\x00\x03", "\x40\x00\x00\x00\x00\x00",
	} {
		for _, behind := range []string{"", "\x00", "\x01", "\x06", "\xff", "\x00\x00\x00\x00\x00\x01\x01", "more"} {
			r := bytes.Open(s + behind)
			readsId(t, r, api.Id{}, api.ErrArg)
			if r.Left() != 0 || r.Num(1) != 0 {
				t.Error("what is wrong is read on")
			}
			readsKey(t, bytes.Open(s+behind), api.Key{}, api.ErrArg)
		}
	}
	for att := 6; att <= 255; att++ {
		for _, behind := range []string{"", "\x01", "more"} {
			readsKey(t, bytes.Open("\x03\x00\x00\x00\x00\x11"+string([]byte{byte(att)})+behind), api.Key{}, api.ErrArg)
		}
	}
}

// 7.2: of too few bytes: what is there is not told either, not even where but the attempt is missing.
func TestReadShort(t *testing.T) {
	for _, k := range []api.Key{key(3, 0, 17, 2), key(0, 0, 1, 0), key(63, 65535, 16777215, 5), key(1, 257, 65793, 1)} {
		s := ident.KeyCode(k)
		for i := range len(s) {
			readsKey(t, bytes.Open(s[:i]), api.Key{}, api.ErrSize)
			if i < len(s)-1 {
				readsId(t, bytes.Open(s[:i]), api.Id{}, api.ErrSize)
			}
		}
	}
	for size := range 6 {
		readsId(t, bytes.Open(strings.Repeat("\xff", size)), api.Id{}, api.ErrSize)
		readsKey(t, bytes.Open(strings.Repeat("\xff", size)), api.Key{}, api.ErrSize)
	}
}

// 7.2: what was wrong ahead stays so, and what would be read then is nothing.
func TestReadBehindAFault(t *testing.T) {
	for _, e := range []api.Errno{api.ErrNil, api.ErrSize, api.ErrSum, api.ErrForm, api.ErrKind, api.ErrText, api.ErrLate} {
		for _, s := range []string{"", "\x03", ident.Code(id(3, 0, 17)), ident.KeyCode(key(3, 0, 17, 2)), ident.KeyCode(key(64, 0, 0, 6))} {
			r := bytes.Open(s)
			r.Fail(e)
			readsId(t, r, api.Id{}, e)
			readsKey(t, r, api.Key{}, e)
		}
	}
	r := bytes.Open("\x02" + ident.KeyCode(key(3, 0, 17, 2)))
	r.Flag()
	readsKey(t, r, api.Key{}, api.ErrForm)
	readsId(t, r, api.Id{}, api.ErrForm)
}

// 7.2: behind OK as a fault, which is none, it is read as it stands there.
func TestReadBehindNoFault(t *testing.T) {
	r := bytes.Open(ident.KeyCode(key(3, 0, 17, 2)))
	r.Fail(api.OK)
	readsKey(t, r, key(3, 0, 17, 2), api.OK)
}

// 7.2: a nil reader has nothing.
func TestReadNil(t *testing.T) {
	var r *bytes.Reader
	readsId(t, r, api.Id{}, api.ErrNil)
	readsKey(t, r, api.Key{}, api.ErrNil)
}

// 7.2: no more is read than there is to a key; where something is left, nothing is wrong as yet.
func TestReadInARow(t *testing.T) {
	keys := []api.Key{key(3, 0, 17, 2), key(0, 0, 1, 0), key(63, 65535, 16777215, 5)}
	var s string
	for _, k := range keys {
		s += ident.KeyCode(k) + ident.Code(k.Id)
	}
	r := bytes.Open(s + "\x09")
	for i, k := range keys {
		if got := ident.ReadKey(r); got != k {
			t.Errorf("%v is read, not %v", got, k)
		}
		if got := ident.Read(r); got != k.Id {
			t.Errorf("%v is read, not %v", got, k.Id)
		}
		if want := 13*(len(keys)-1-i) + 1; r.Left() != want {
			t.Errorf("%d bytes are left, not %d", r.Left(), want)
		}
	}
	if r.Num(1) != 9 || r.End() != api.OK {
		t.Error("what stands behind is not read")
	}
	r = bytes.Open(s + "\x09")
	ident.ReadKey(r)
	if r.End() != api.ErrForm {
		t.Error("what is left is not told")
	}
}

// 7.3: what may be is parsed, and read, as it was told.
func TestToldAndRead(t *testing.T) {
	for _, d := range rightIds() {
		if got, e := ident.Parse(ident.Text(d)); got != d || e != api.OK {
			t.Errorf("Parse(%q) = %v, %v", ident.Text(d), got, e)
		}
		if len(ident.Code(d)) != 6 {
			t.Errorf("Code(%v) has %d bytes", d, len(ident.Code(d)))
		}
		readsId(t, bytes.Open(ident.Code(d)), d, api.OK)
	}
	for _, k := range rightKeys() {
		readsKey(t, bytes.Open(ident.KeyCode(k)), k, api.OK)
	}
}

// 7.3: what may not be is not read as another one that may.
func TestWrongIsNotRead(t *testing.T) {
	for node := range 256 {
		for att := range 256 {
			for _, seq := range []int{0, 1} {
				k := key(node, 7, seq, att)
				if node <= lastNode && att <= lastAtt && seq == 1 {
					readsKey(t, bytes.Open(ident.KeyCode(k)), k, api.OK)
				} else {
					readsKey(t, bytes.Open(ident.KeyCode(k)), api.Key{}, api.ErrArg)
				}
			}
		}
	}
}

// 7.3: keys stand in one row, in which their bytes stand too.
func TestOneRow(t *testing.T) {
	row := rightKeys()
	// A row that is none yet: from both ends on in turns.
	var mixed []api.Key
	for i, j := 0, len(row)-1; i <= j; i, j = i+1, j-1 {
		mixed = append(mixed, row[j], row[i])
	}
	slices.SortFunc(mixed, ident.Keys)
	mixed = slices.Compact(mixed)
	if !slices.Equal(mixed, row) {
		t.Error("sorted, it is another row")
	}
	for i := 1; i < len(row); i++ {
		a, b := row[i-1], row[i]
		if ident.Keys(a, b) != -1 || ident.Keys(b, a) != 1 || ident.Keys(a, a) != 0 || ident.KeyCode(a) >= ident.KeyCode(b) {
			t.Errorf("%v and %v", a, b)
		}
		if c := ident.Compare(a.Id, b.Id); c != -1 && (c != 0 || a.Id != b.Id) {
			t.Errorf("Compare(%v, %v) = %d", a.Id, b.Id, c)
		}
	}
}

// 7.3: of any three keys, what stands ahead of what stands ahead of another one stands ahead of that.
func TestOneRowOfThree(t *testing.T) {
	var l []api.Key
	for i, k := range fewKeys() {
		if i%7 == 0 {
			l = append(l, k)
		}
	}
	for _, a := range l {
		for _, b := range l {
			if (ident.Keys(a, b) == 0) != (a == b) || ident.Keys(a, b) != -ident.Keys(b, a) {
				t.Errorf("%v and %v", a, b)
			}
			for _, c := range l {
				if ident.Keys(a, b) <= 0 && ident.Keys(b, c) <= 0 && ident.Keys(a, c) > 0 {
					t.Errorf("%v, %v and %v", a, b, c)
				}
			}
		}
	}
}
