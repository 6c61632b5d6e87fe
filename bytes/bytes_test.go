package bytes_test

import (
	"math"
	"math/big"
	"strings"
	"testing"

	"hourglass/api"
	"hourglass/bytes"
)

// greatest tells the greatest number of so many bytes.
func greatest(width int) int {
	n := 0
	for range width {
		n = n*256 + 255
	}
	return n
}

// numbers are ordinary ones, those around each power of 256, and those that no width tells.
func numbers() []int {
	l := []int{math.MinInt, math.MinInt + 1, math.MinInt32, -256, -255, -2, -1, 2, 7, 127, 128, 258, 1000, 65000, 123456789, 0x01020304050607,
		0x7F7F7F7F7F7F7F, api.MaxTick - 1, api.MaxTick, api.MaxValue - 1, api.MaxValue, 1<<62 + 5, math.MaxInt - 1, math.MaxInt}
	for width := range 8 {
		for d := -1; d <= 1; d++ {
			l = append(l, 1<<(8*width)+d, 1<<(8*width+7)+d)
		}
	}
	return l
}

// modelNum is what 4.1 says, by numbers of any length.
func modelNum(n, width int) string {
	if width < 1 || width > 7 || n < 0 {
		return ""
	}
	digits := new(big.Int).SetInt64(int64(n)).Bytes()
	if len(digits) > width {
		return ""
	}
	return strings.Repeat("\x00", width-len(digits)) + string(digits)
}

// allBytes tells each byte once.
func allBytes() string {
	b := make([]byte, 256)
	for i := range b {
		b[i] = byte(i)
	}
	return string(b)
}

// texts are texts that are not too long.
func texts() []string {
	return []string{"", "a", "ab", "\x00", "\x00\x00", "\x01", "\xff", "\x05ab", "é€\U0001F600", "\xc3", allBytes()[:255], allBytes()[1:],
		strings.Repeat("x", 127), strings.Repeat("x", 128), strings.Repeat("x", 254), strings.Repeat("\x00", 255), strings.Repeat("\xff", 255)}
}

// behinds are what stands behind something that is read.
func behinds() []string {
	return []string{"", "\x00", "\x01", "\xff", "rest", "\x03abc", strings.Repeat("\xff", 300)}
}

// 4.1: written out.
func TestNum(t *testing.T) {
	for _, c := range []struct {
		n, width int
		want     string
	}{
		{0, 1, "\x00"}, {1, 1, "\x01"}, {255, 1, "\xff"}, {256, 1, ""}, {-1, 1, ""},
		{258, 1, ""}, {258, 2, "\x01\x02"}, {258, 3, "\x00\x01\x02"}, {258, 7, "\x00\x00\x00\x00\x00\x01\x02"},
		{0, 7, "\x00\x00\x00\x00\x00\x00\x00"}, {0x01020304050607, 7, "\x01\x02\x03\x04\x05\x06\x07"}, {0x01020304050607, 6, ""},
		{65535, 2, "\xff\xff"}, {65536, 2, ""}, {65536, 3, "\x01\x00\x00"}, {1<<24 - 1, 3, "\xff\xff\xff"}, {1 << 24, 3, ""},
		{1<<31 - 1, 4, "\x7f\xff\xff\xff"}, {1<<32 - 1, 4, "\xff\xff\xff\xff"}, {1 << 32, 4, ""}, {1<<40 - 1, 5, "\xff\xff\xff\xff\xff"}, {1 << 40, 5, ""},
		{1<<48 - 1, 6, "\xff\xff\xff\xff\xff\xff"}, {1 << 48, 6, ""}, {1<<56 - 1, 7, "\xff\xff\xff\xff\xff\xff\xff"}, {1 << 56, 7, ""},
		{api.MaxTick, 7, "\x04\x00\x00\x00\x00\x00\x00"}, {math.MaxInt, 7, ""}, {math.MinInt, 7, ""}, {-1 << 56, 7, ""},
		{5, 0, ""}, {0, 0, ""}, {5, 8, ""}, {0, 8, ""}, {5, -1, ""}, {0, -8, ""}, {5, math.MaxInt, ""}, {5, math.MinInt, ""}, {-1, 0, ""}, {-1, 8, ""},
	} {
		if got := bytes.Num(c.n, c.width); got != c.want {
			t.Errorf("Num(%d, %d) = %q, not %q", c.n, c.width, got, c.want)
		}
	}
}

// 4.1: as the model.
func TestNumAsTheModel(t *testing.T) {
	for _, n := range numbers() {
		for _, width := range []int{math.MinInt, -64, -8, -1, 0, 1, 2, 3, 4, 5, 6, 7, 8, 9, 15, 16, 64, 256, 1 << 32, 1<<61 + 1, math.MaxInt} {
			if got, want := bytes.Num(n, width), modelNum(n, width); got != want {
				t.Errorf("Num(%d, %d) = %q, not %q", n, width, got, want)
			}
		}
	}
}

// 4.1: texts up to 255 bytes (not runes), and longer ones.
func TestText(t *testing.T) {
	for s, want := range map[string]string{"": "\x00", "a": "\x01a", "ab": "\x02ab", "\x00": "\x01\x00", "é": "\x02\xc3\xa9", "\xff\xff\xff": "\x03\xff\xff\xff"} {
		if got := bytes.Text(s); got != want {
			t.Errorf("Text(%q) = %q, not %q", s, got, want)
		}
	}
	for size := range 600 {
		s := strings.Repeat("z", size)
		want := ""
		if size <= 255 {
			want = string([]byte{byte(size)}) + s
		}
		if got := bytes.Text(s); got != want {
			t.Errorf("Text of %d bytes = %q, not %q", size, got, want)
		}
	}
	for _, s := range []string{strings.Repeat("é", 128), strings.Repeat("x", 65536), strings.Repeat("x", 65537), allBytes()} {
		if got := bytes.Text(s); got != "" {
			t.Errorf("Text of %d bytes = %q", len(s), got)
		}
	}
}

// 4.1: truths.
func TestFlag(t *testing.T) {
	if got := bytes.Flag(true); got != "\x01" {
		t.Errorf("Flag(true) = %q", got)
	}
	if got := bytes.Flag(false); got != "\x00" {
		t.Errorf("Flag(false) = %q", got)
	}
}

// isWrong asks a reader at which something is wrong for everything, twice.
func isWrong(t *testing.T, r *bytes.Reader, want api.Errno) {
	t.Helper()
	for range 2 {
		if n := r.Left(); n != 0 {
			t.Errorf("with error %d, %d bytes are left", want, n)
		}
		for _, width := range []int{-1, 0, 1, 2, 7, 8} {
			if n := r.Num(width); n != 0 {
				t.Errorf("with error %d, Num(%d) = %d", want, width, n)
			}
		}
		if s := r.Text(); s != "" {
			t.Errorf("with error %d, Text() = %q", want, s)
		}
		if r.Flag() {
			t.Errorf("with error %d, Flag() is true", want)
		}
		if e := r.End(); e != want {
			t.Errorf("End() = %d, not %d", e, want)
		}
		r.Fail(api.ErrLate)
		r.Fail(api.OK)
		if e := r.End(); e != want {
			t.Errorf("End() = %d behind other faults, not %d", e, want)
		}
	}
}

// 4.2: what is read in a row, each from where the one ahead ended.
func TestReadInARow(t *testing.T) {
	r := bytes.Open("\x07\x01\x02\x03abc\x00\x01\x00\x00\x00\x01\xff\xff\xff\xff\xff\xff\xff")
	left := func(want int) {
		t.Helper()
		if got := r.Left(); got != want {
			t.Errorf("%d bytes are left, not %d", got, want)
		}
	}
	left(20)
	if n := r.Num(1); n != 7 {
		t.Error(n)
	}
	left(19)
	if n := r.Num(2); n != 258 {
		t.Error(n)
	}
	left(17)
	if s := r.Text(); s != "abc" {
		t.Error(s)
	}
	left(13)
	if s := r.Text(); s != "" {
		t.Error(s)
	}
	left(12)
	if !r.Flag() {
		t.Error("no flag")
	}
	left(11)
	if r.Flag() {
		t.Error("a flag")
	}
	left(10)
	if n := r.Num(3); n != 1 {
		t.Error(n)
	}
	left(7)
	if n := r.Num(7); n != 1<<56-1 {
		t.Error(n)
	}
	left(0)
	for range 2 {
		if e := r.End(); e != api.OK {
			t.Error(e)
		}
	}
	// The end was no fault, so that what is read behind it is told as one.
	if n := r.Num(1); n != 0 {
		t.Error(n)
	}
	isWrong(t, r, api.ErrSize)
}

// 4.2: widths that may not be are wrong, however many bytes there are.
func TestReadNumWidths(t *testing.T) {
	for _, s := range []string{"", "\x05", "12345678", strings.Repeat("\xff", 300)} {
		for _, width := range []int{math.MinInt, -1, 0, 8, 9, 256, math.MaxInt} {
			r := bytes.Open(s)
			if n := r.Num(width); n != 0 {
				t.Errorf("Num(%d) of %q = %d", width, s, n)
			}
			isWrong(t, r, api.ErrArg)
		}
	}
}

// 4.2: numbers of fewer bytes than are asked for.
func TestReadNumShort(t *testing.T) {
	for width := 1; width <= 7; width++ {
		for size := range width {
			r := bytes.Open(strings.Repeat("\x01", size))
			if n := r.Num(width); n != 0 {
				t.Errorf("Num(%d) of %d bytes = %d", width, size, n)
			}
			isWrong(t, r, api.ErrSize)
		}
	}
}

// 4.2: texts of fewer bytes than they say, and those that do not say.
func TestReadTextShort(t *testing.T) {
	isText := func(s string) {
		t.Helper()
		r := bytes.Open(s)
		if got := r.Text(); got != "" {
			t.Errorf("Text() of %q = %q", s, got)
		}
		isWrong(t, r, api.ErrSize)
	}
	isText("")
	for size := 1; size <= 255; size++ {
		whole := string([]byte{byte(size)}) + allBytes()[:size]
		isText(whole[:size])
		isText(whole[:1])
		if got := bytes.Open(whole).Text(); got != allBytes()[:size] {
			t.Errorf("Text() of %q = %q", whole, got)
		}
	}
}

// 4.2: a truth is 0 or 1, and nothing else.
func TestReadFlag(t *testing.T) {
	for b := range 256 {
		r := bytes.Open(string([]byte{byte(b), 1, 1, 1}))
		if got := r.Flag(); got != (b == 1) {
			t.Errorf("Flag() of %d = %v", b, got)
		}
		if b > 1 {
			isWrong(t, r, api.ErrForm)
		} else if n := r.Left(); n != 3 {
			t.Errorf("behind the flag %d, %d bytes are left", b, n)
		}
	}
	r := bytes.Open("")
	if r.Flag() {
		t.Error("a flag of nothing")
	}
	isWrong(t, r, api.ErrSize)
}

// 4.2: what is noted as wrong stays, whatever number it has.
func TestFail(t *testing.T) {
	for _, e := range []api.Errno{api.ErrNil, api.ErrArg, api.ErrSize, api.ErrSum, api.ErrForm, api.ErrFull, api.ErrNone, api.ErrTwice, api.ErrKind, api.ErrText, api.ErrLate, -1, 99, math.MaxInt, math.MinInt} {
		for _, s := range []string{"", "\x01\x01\x01\x01"} {
			r := bytes.Open(s)
			r.Fail(e)
			isWrong(t, r, e)
		}
	}
}

// 4.2: OK is nothing wrong.
func TestFailOfNothing(t *testing.T) {
	r := bytes.Open("\x01\x02ab")
	r.Fail(api.OK)
	if !r.Flag() || r.Left() != 3 {
		t.Errorf("%d bytes are left", r.Left())
	}
	r.Fail(api.OK)
	if s := r.Text(); s != "ab" {
		t.Errorf("Text() = %q", s)
	}
	r.Fail(api.OK)
	if e := r.End(); e != api.OK {
		t.Error(e)
	}
	r.Fail(api.ErrKind)
	isWrong(t, r, api.ErrKind)
}

// 4.2: what is left at the end is wrong from then on, and not ahead of it.
func TestEnd(t *testing.T) {
	for size := 1; size < 300; size++ {
		s := strings.Repeat("\x01", size)
		isWrong(t, endOf(t, s, api.ErrForm), api.ErrForm)
		r := bytes.Open(s)
		if n := r.Left(); n != size {
			t.Errorf("%d bytes are left, not %d", n, size)
		}
		r.Fail(api.ErrSum)
		isWrong(t, r, api.ErrSum)
	}
	r := endOf(t, "", api.OK)
	if e := r.End(); e != api.OK {
		t.Error(e)
	}
	r.Fail(api.ErrText)
	isWrong(t, r, api.ErrText)
}

func endOf(t *testing.T, s string, want api.Errno) *bytes.Reader {
	t.Helper()
	r := bytes.Open(s)
	if e := r.End(); e != want {
		t.Errorf("End() of %q = %d, not %d", s, e, want)
	}
	return r
}

// 4.2: the first fault is what is wrong.
func TestFirstFaultStays(t *testing.T) {
	all := []struct {
		e    api.Errno
		make func(r *bytes.Reader)
	}{
		{api.ErrArg, func(r *bytes.Reader) { r.Num(0) }},
		{api.ErrArg, func(r *bytes.Reader) { r.Num(8) }},
		{api.ErrSize, func(r *bytes.Reader) { r.Num(7) }},
		{api.ErrSize, func(r *bytes.Reader) { r.Text() }},
		{api.ErrForm, func(r *bytes.Reader) { r.Flag() }},
		{api.ErrForm, func(r *bytes.Reader) { r.End() }},
		{api.ErrTwice, func(r *bytes.Reader) { r.Fail(api.ErrTwice) }},
	}
	for _, first := range all {
		for _, second := range all {
			r := bytes.Open("\x09ab")
			first.make(r)
			second.make(r)
			isWrong(t, r, first.e)
		}
	}
}

// 4.2: a nil reader.
func TestNilReader(t *testing.T) {
	var r *bytes.Reader
	isWrong(t, r, api.ErrNil)
	r.Fail(api.ErrArg)
	isWrong(t, r, api.ErrNil)
}

// 4.2: readers of the same bytes do not know of each other.
func TestReadersApart(t *testing.T) {
	s := "\x01\x02"
	a, b := bytes.Open(s), bytes.Open(s)
	a.Num(1)
	a.Fail(api.ErrSum)
	if n := b.Num(2); n != 258 {
		t.Error(n)
	}
	if e := b.End(); e != api.OK {
		t.Error(e)
	}
	isWrong(t, a, api.ErrSum)
}

// 4.3: numbers are read as they were told, and told as they were read.
func TestNumToldAndRead(t *testing.T) {
	for width := 1; width <= 7; width++ {
		for _, n := range numbers() {
			if n < 0 || n > greatest(width) {
				continue
			}
			told := bytes.Num(n, width)
			for _, behind := range behinds() {
				r := bytes.Open(told + behind)
				if got := r.Num(width); got != n || r.Left() != len(behind) {
					t.Errorf("%d of the width %d, with %q behind: %d, %d left", n, width, behind, got, r.Left())
				}
			}
		}
		for at := range 256 - width {
			s := allBytes()[at : at+width]
			if got := bytes.Num(bytes.Open(s).Num(width), width); got != s {
				t.Errorf("%q is told as %q", s, got)
			}
		}
	}
}

// 4.3: texts and truths are read as they were told.
func TestTextAndFlagToldAndRead(t *testing.T) {
	for _, behind := range behinds() {
		for _, s := range texts() {
			r := bytes.Open(bytes.Text(s) + behind)
			if got := r.Text(); got != s || r.Left() != len(behind) {
				t.Errorf("%q, with %q behind: %q, %d left", s, behind, got, r.Left())
			}
			if got := bytes.Text(bytes.Open(bytes.Text(s) + behind).Text()); got != bytes.Text(s) {
				t.Errorf("%q is told as %q", s, got)
			}
		}
		for _, is := range []bool{false, true} {
			r := bytes.Open(bytes.Flag(is) + behind)
			if got := r.Flag(); got != is || r.Left() != len(behind) {
				t.Errorf("%v, with %q behind: %v, %d left", is, behind, got, r.Left())
			}
		}
	}
}

// readOf tells the bytes that were read of a text, by what is left; false, if something is wrong.
func readOf(s string, r *bytes.Reader) (string, bool) {
	left := r.Left()
	r.Num(0)
	return s[:len(s)-left], r.End() == api.ErrArg
}

// 4.3: whatever bytes there are, what is read of them is told as just these.
func TestAnyBytesReadAndTold(t *testing.T) {
	for b := range 256 {
		for _, behind := range append(behinds(), allBytes()) {
			s := string([]byte{byte(b)}) + behind
			r := bytes.Open(s)
			text := r.Text()
			if got, ok := readOf(s, r); ok && bytes.Text(text) != got {
				t.Errorf("%q is read as the text %q", got, text)
			} else if ok != (b <= len(behind)) {
				t.Errorf("%q is read as a text: %v", s, ok)
			}
			r = bytes.Open(s)
			flag := r.Flag()
			if got, ok := readOf(s, r); ok && bytes.Flag(flag) != got {
				t.Errorf("%q is read as the flag %v", got, flag)
			} else if ok != (b <= 1) {
				t.Errorf("%q is read as a flag: %v", s, ok)
			}
			for width := 1; width <= 7; width++ {
				r = bytes.Open(s)
				n := r.Num(width)
				if got, ok := readOf(s, r); ok && bytes.Num(n, width) != got {
					t.Errorf("%q is read as %d", got, n)
				} else if ok != (width <= len(s)) {
					t.Errorf("%q is read as a number of the width %d: %v", s, width, ok)
				}
			}
		}
	}
}
