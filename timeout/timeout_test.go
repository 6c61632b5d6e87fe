package timeout_test

import (
	"math"
	"math/big"
	"strings"
	"testing"

	"hourglass/api"
	"hourglass/timeout"
)

const (
	most   = api.MaxTick
	milli  = 1000
	sec    = 1000000
	minute = 60000000
	hour   = 3600000000
	full   = 99999999
)

// units are the units with whole ticks, each with its ticks, from the finest one on.
var units = []struct {
	name  byte
	ticks int
}{{'u', 1}, {'m', milli}, {'S', sec}, {'M', minute}, {'H', hour}}

func decoded(t *testing.T, s string, want int) {
	t.Helper()
	if got, e := timeout.Decode(s); e != api.OK || got != want {
		t.Errorf("Decode(%q) = %d, %d, not %d", s, got, e, want)
	}
}

func refused(t *testing.T, s string, want api.Errno) {
	t.Helper()
	if got, e := timeout.Decode(s); e != want || got != 0 {
		t.Errorf("Decode(%q) = %d, %d, not error %d", s, got, e, want)
	}
}

func TestMaxDigits(t *testing.T) {
	if timeout.MaxDigits != 8 {
		t.Error(timeout.MaxDigits)
	}
}

// 2.1: sizes.
func TestDecodeSizes(t *testing.T) {
	for _, s := range []string{"", "5", "u", "x", "n", "-", "\x00", "\xff", "123456789u", "000000000u", "000000001n", "1234567890u",
		"999999999H", "abcdefghij", "          ", "-12345678u", "٣٣٣٣u\u00e9", strings.Repeat("0", 1000) + "u", strings.Repeat("x", 10)} {
		refused(t, s, api.ErrSize)
	}
	digits := "12345678"
	value := 0
	for size := 2; size <= 9; size++ {
		value = value*10 + size - 1
		decoded(t, digits[:size-1]+"u", value)
		refused(t, digits[:size-1]+"x", api.ErrForm)
		refused(t, "x"+digits[1:size-1]+"u", api.ErrForm)
	}
}

// 2.1: units.
func TestDecodeUnits(t *testing.T) {
	for _, c := range []struct {
		s    string
		want int
	}{
		{"0n", 0}, {"1n", 0}, {"999n", 0}, {"1000n", 1}, {"1001n", 1}, {"1999n", 1}, {"2000n", 2}, {"99999999n", 99999}, {"99999000n", 99999}, {"99998999n", 99998},
		{"0u", 0}, {"1u", 1}, {"99999999u", full},
		{"0m", 0}, {"1m", 1000}, {"7m", 7000}, {"99999999m", 99999999000},
		{"0S", 0}, {"1S", 1000000}, {"5S", 5000000}, {"99999999S", 99999999000000},
		{"0M", 0}, {"1M", 60000000}, {"18764998M", 1125899880000000}, {"18764999M", most}, {"99999999M", most},
		{"0H", 0}, {"1H", 3600000000}, {"312749H", 1125896400000000}, {"312750H", most}, {"99999999H", most},
	} {
		decoded(t, c.s, c.want)
	}
}

// 2.1: zeros ahead tell nothing.
func TestDecodeZerosAhead(t *testing.T) {
	for zeros := 0; zeros < timeout.MaxDigits; zeros++ {
		ahead := strings.Repeat("0", zeros)
		for _, u := range units {
			decoded(t, ahead+"3"+string(rune(u.name)), 3*u.ticks)
			decoded(t, ahead+"0"+string(rune(u.name)), 0)
		}
		decoded(t, ahead+"9n", 0)
		if zeros+4 <= timeout.MaxDigits {
			decoded(t, ahead+"7000n", 7)
		}
	}
	decoded(t, "01000u", 1000)
	decoded(t, "00000010S", 10*sec)
}

// 2.1: each byte, at each place of texts of each size.
func TestDecodeEachByte(t *testing.T) {
	for size := 2; size <= 9; size++ {
		for c := range 256 {
			text := []byte(strings.Repeat("1", size-1) + "u")
			text[size-1] = byte(c)
			if _, e := timeout.Decode(string(text)); (e == api.OK) != strings.ContainsRune("HMSmun", rune(c)) || e != api.OK && e != api.ErrForm {
				t.Errorf("Decode(%q) answers error %d", text, e)
			}
			text[size-1] = 'u'
			for at := range size - 1 {
				text[at] = byte(c)
				if _, e := timeout.Decode(string(text)); (e == api.OK) != (c >= '0' && c <= '9') || e != api.OK && e != api.ErrForm {
					t.Errorf("Decode(%q) answers error %d", text, e)
				}
				text[at] = '1'
			}
		}
	}
}

// 2.1: what other readers of numbers take, and this one does not.
func TestDecodeForm(t *testing.T) {
	for _, s := range []string{"-5u", "+5u", "5 u", " 5u", "5u ", "5u\n", "5_0u", "0x5u", "1e3u", "1.5S", "1,5S", "uu", "55", "5mu", "5ms", "5us", "1H1M",
		"5h", "5s", "5U", "5N", "5x", "5\x00", "\x005u", "5\xffu", "\xff\xff", "٣u", "५u", "5µ", "12345678 ", "123456789", "nn", "0-"} {
		refused(t, s, api.ErrForm)
	}
}

// 2.1: by numbers that cannot run over.
func TestDecodeAsTheModel(t *testing.T) {
	for _, digits := range []string{"0", "1", "9", "10", "99", "123", "4096", "99999", "312749", "312750", "9999999", "10000000", "18764998", "18764999", "99999998", "99999999"} {
		number, _ := new(big.Int).SetString(digits, 10)
		for _, u := range units {
			want := new(big.Int).Mul(number, big.NewInt(int64(u.ticks)))
			if want.Cmp(big.NewInt(most)) > 0 {
				want.SetInt64(most)
			}
			decoded(t, digits+string(rune(u.name)), int(want.Int64()))
		}
		decoded(t, digits+"n", int(new(big.Int).Quo(number, big.NewInt(1000)).Int64()))
	}
}

// 2.2: written out.
func TestEncode(t *testing.T) {
	for _, c := range []struct {
		span int
		want string
	}{
		{math.MinInt, "0u"}, {-most, "0u"}, {-100000000, "0u"}, {-1, "0u"}, {0, "0u"}, {1, "1u"}, {9, "9u"}, {10, "10u"}, {100, "100u"},
		{1000, "1000u"}, {sec, "1000000u"}, {hour / 60, "60000000u"},
		{full - 1, "99999998u"}, {full, "99999999u"}, {full + 1, "100000m"}, {100000999, "100000m"}, {100001000, "100001m"},
		{hour, "3600000m"},
		{full * milli, "99999999m"}, {full*milli + 999, "99999999m"}, {(full + 1) * milli, "100000S"}, {(full+1)*milli - 1, "99999999m"}, {(full+1)*milli + 999999, "100000S"},
		{full * sec, "99999999S"}, {full*sec + 999999, "99999999S"}, {(full+1)*sec - 1, "99999999S"}, {(full + 1) * sec, "1666666M"},
		{1666667*minute - 1, "1666666M"}, {1666667 * minute, "1666667M"},
		{most - 1, "18764998M"}, {most, "18764998M"}, {most + 1, "18764998M"}, {full * minute, "18764998M"}, {(full + 1) * minute, "18764998M"},
		{full * hour, "18764998M"}, {(full + 1) * hour, "18764998M"}, {math.MaxInt, "18764998M"},
	} {
		if got := timeout.Encode(c.span); got != c.want {
			t.Errorf("Encode(%d) = %q, not %q", c.span, got, c.want)
		}
	}
}

// spans are ordinary ones, and those around each place where the text or its unit becomes another one.
func spans() []int {
	l := []int{math.MinInt, math.MinInt + 1, math.MaxInt - 1, math.MaxInt, 7, 42, 1234567, 123456789, 98765432109, 1234567890123, 123456789012345, most / 2, most / 3}
	around := func(n int) {
		for d := -2; d <= 2; d++ {
			l = append(l, n+d)
		}
	}
	around(0)
	around(most)
	for n := 10; n < most; n *= 10 {
		around(n)
		around(3 * n)
	}
	for n := 2; n < most; n *= 2 {
		around(n)
	}
	for _, u := range units {
		for _, n := range []int{1, 59, 60, 999, 1000, 1666666, 1666667, full / 2, full - 1, full, full + 1} {
			around(n * u.ticks)
			around(n*u.ticks + u.ticks/2)
		}
	}
	return l
}

func clamped(n int) int {
	if n < 0 {
		return 0
	}
	if n > most {
		return most
	}
	return n
}

// 2.2: in the first unit in which it fits.
func TestEncodeAsTheModel(t *testing.T) {
	for _, span := range spans() {
		got := timeout.Encode(span)
		for _, u := range units {
			if n := clamped(span) / u.ticks; n <= full {
				if want := big.NewInt(int64(n)).String() + string(rune(u.name)); got != want {
					t.Errorf("Encode(%d) = %q, not %q", span, got, want)
				}
				break
			}
		}
	}
}

// 2.2: what is told is read again.
func TestCut(t *testing.T) {
	for _, span := range spans() {
		text := timeout.Encode(span)
		want, e := timeout.Decode(text)
		if e != api.OK {
			t.Errorf("Encode(%d) = %q, which cannot be read: %d", span, text, e)
		}
		if got := timeout.Cut(span); got != want {
			t.Errorf("Cut(%d) = %d, not %d", span, got, want)
		}
	}
	for _, c := range []struct{ span, want int }{
		{math.MinInt, 0}, {-1, 0}, {0, 0}, {full, full}, {100000999, 100000000}, {99999999999, 99999999000}, {100000000000, 100000000000},
		{99999999999999, 99999999000000}, {100000000000000, 99999960000000}, {most, 1125899880000000}, {math.MaxInt, 1125899880000000},
	} {
		if got := timeout.Cut(c.span); got != c.want {
			t.Errorf("Cut(%d) = %d, not %d", c.span, got, c.want)
		}
	}
}

// 2.3: never more, and less by not more than a unit.
func TestNeverMore(t *testing.T) {
	for _, span := range spans() {
		text, left := timeout.Encode(span), timeout.Cut(span)
		unit := 0
		for _, u := range units {
			if u.name == text[len(text)-1] {
				unit = u.ticks
			}
		}
		if left > clamped(span) || clamped(span)-left > unit {
			t.Errorf("of %d, as %q, %d is left", span, text, left)
		}
		if clamped(span) <= full && left != clamped(span) {
			t.Errorf("of %d, which fits, %d is left", span, left)
		}
		if again := timeout.Cut(left); again != left {
			t.Errorf("of %d, cut to %d, %d is left when it is cut again", span, left, again)
		}
	}
}

// 2.3: below 10^14 ticks a longer span is not cut to a shorter one.
func TestLongerIsNotCutShorter(t *testing.T) {
	const bound = 100000000000000
	for _, shorter := range spans() {
		for _, longer := range spans() {
			if shorter <= longer && longer < bound && timeout.Cut(shorter) > timeout.Cut(longer) {
				t.Errorf("%d is cut to %d, %d to %d", shorter, timeout.Cut(shorter), longer, timeout.Cut(longer))
			}
		}
	}
}
