package crc_test

import (
	"strings"
	"testing"

	"hourglass/crc"
)

// bitSum is what the chapter says, bit by bit.
func bitSum(c uint16, s string) uint16 {
	for i := 0; i < len(s); i++ {
		c ^= uint16(s[i]) << 8
		for range 8 {
			out := c & 0x8000
			c <<= 1
			if out != 0 {
				c ^= 0x1021
			}
		}
	}
	return c
}

// next is a number that a number becomes, so that tests have many that look mixed.
func next(n uint64) uint64 {
	n ^= n << 13
	n ^= n >> 7
	return n ^ n<<17
}

// mixed tells a text of so many bytes of all kinds.
func mixed(size int, from uint64) string {
	b := make([]byte, size)
	for i := range b {
		from = next(from)
		b[i] = byte(from >> 24)
	}
	return string(b)
}

// texts are texts of all sizes that the tests seal.
func texts() []string {
	out := []string{"", "\x00", "\xff", "A", "123456789", "\xff\xff", "\x00\x00\x00", "é€\U0001F600", strings.Repeat("\xff", 40), strings.Repeat("\x00", 40)}
	for size := range 33 {
		out = append(out, mixed(size, uint64(size)*977+1))
	}
	return append(out, mixed(1000, 5))
}

// 3.1: written-out sums.
func TestSum(t *testing.T) {
	for _, c := range []struct {
		s    string
		want uint16
	}{
		{"", 0xFFFF}, {"123456789", 0x29B1}, {"A", 0xB915}, {"\x00", 0xE1F0}, {"\xff", 0xFF00}, {"\xff\xff", 0x0000}, {"\x00\x00", 0x1D0F},
		{strings.Repeat("A", 256), 0xEA0B},
	} {
		if got := crc.Sum(c.s); got != c.want {
			t.Errorf("Sum(%q) = %04X, not %04X", c.s, got, c.want)
		}
	}
}

// 3.1: each byte, behind each sum of a spread.
func TestMoreEachByte(t *testing.T) {
	for b := range 256 {
		s := string([]byte{byte(b)})
		if got, want := crc.Sum(s), bitSum(0xFFFF, s); got != want {
			t.Errorf("Sum(%q) = %04X, not %04X", s, got, want)
		}
		for c := 0; c < 0x10000; c += 37 {
			if got, want := crc.More(uint16(c), s), bitSum(uint16(c), s); got != want {
				t.Fatalf("More(%04X, %q) = %04X, not %04X", c, s, got, want)
			}
		}
		for bit := range 16 {
			c := uint16(1) << bit
			if got, want := crc.More(c, s), bitSum(c, s); got != want {
				t.Fatalf("More(%04X, %q) = %04X, not %04X", c, s, got, want)
			}
		}
	}
}

// 3.1: each sum, with nothing behind, and with a zero.
func TestMoreEachSum(t *testing.T) {
	for c := range 0x10000 {
		if got := crc.More(uint16(c), ""); got != uint16(c) {
			t.Fatalf("More(%04X, nothing) = %04X", c, got)
		}
		if got, want := crc.More(uint16(c), "\x00"), bitSum(uint16(c), "\x00"); got != want {
			t.Fatalf("More(%04X, 0) = %04X, not %04X", c, got, want)
		}
	}
}

// 3.1: long texts, whole and in two parts.
func TestMoreInParts(t *testing.T) {
	for _, s := range texts() {
		want := bitSum(0xFFFF, s)
		if got := crc.Sum(s); got != want {
			t.Errorf("Sum(%q) = %04X, not %04X", s, got, want)
		}
		for cut := 0; cut <= len(s); cut++ {
			if got := crc.More(crc.Sum(s[:cut]), s[cut:]); got != want {
				t.Errorf("%q, cut at %d: %04X, not %04X", s, cut, got, want)
			}
		}
	}
}

// 3.2: the higher byte of the sum stands first.
func TestSeal(t *testing.T) {
	for s, want := range map[string]string{"123456789": "123456789\x29\xB1", "": "\xFF\xFF", "A": "A\xB9\x15", "\xff\xff": "\xff\xff\x00\x00", "\xff": "\xff\xff\x00"} {
		if got := crc.Seal(s); got != want {
			t.Errorf("Seal(%q) = %q, not %q", s, got, want)
		}
	}
}

// 3.3: what is sealed is opened, once and twice over.
func TestSealedIsOpened(t *testing.T) {
	for _, s := range texts() {
		once := crc.Seal(s)
		if got, ok := crc.Open(once); !ok || got != s {
			t.Errorf("Open(Seal(%q)) = %q, %v", s, got, ok)
		}
		if got, ok := crc.Open(crc.Seal(once)); !ok || got != once {
			t.Errorf("%q, sealed twice, opened: %q, %v", s, got, ok)
		}
	}
}

func notOpened(t *testing.T, s string) {
	t.Helper()
	if got, ok := crc.Open(s); ok || got != "" {
		t.Errorf("Open(%q) = %q, %v", s, got, ok)
	}
}

// 3.2: what is nobody's seal.
func TestOpenRefuses(t *testing.T) {
	notOpened(t, "")
	for b := range 256 {
		notOpened(t, string([]byte{byte(b)}))
	}
	for n := range 0x10000 {
		s := string([]byte{byte(n >> 8), byte(n)})
		if got, ok := crc.Open(s); ok != (n == 0xFFFF) || got != "" {
			t.Fatalf("Open(%q) = %q, %v", s, got, ok)
		}
	}
	for _, s := range []string{"123456789", "123456789\xB1\x29", "\x29\xB1123456789", "\xFF\xFF\xFF", "\xFF\xFF\x01", "\x00\x00\x00", "123456789\x29\xB1\x01", "123456789\x29", "A\x15\xB9"} {
		notOpened(t, s)
	}
}

// 3.2: a text is opened if it is what Seal tells of some text, and else not.
func TestOpenOfAny(t *testing.T) {
	for _, head := range []string{"", "A", "1234", "\xff\xff"} {
		want := bitSum(0xFFFF, head)
		for n := range 0x10000 {
			s := head + string([]byte{byte(n >> 8), byte(n)})
			got, ok := crc.Open(s)
			if ok != (uint16(n) == want) || ok && got != head || !ok && got != "" {
				t.Fatalf("Open(%q) = %q, %v", s, got, ok)
			}
		}
	}
}

// 3.3: one byte is another one, at each place.
func TestOneByteHurt(t *testing.T) {
	for _, s := range texts()[:30] {
		hurt := []byte(crc.Seal(s))
		for at := range hurt {
			was := hurt[at]
			for other := 1; other < 256; other++ {
				hurt[at] = was ^ byte(other)
				notOpened(t, string(hurt))
			}
			hurt[at] = was
		}
	}
}

// 3.3: two bytes side by side of the text are others.
func TestTwoBytesHurt(t *testing.T) {
	for _, s := range []string{"\x00\x00", "123456789", mixed(12, 99)} {
		sealed := crc.Seal(s)
		hurt := []byte(sealed)
		for at := 0; at+1 < len(s); at++ {
			for other := 1; other < 0x10000; other++ {
				hurt[at], hurt[at+1] = sealed[at]^byte(other>>8), sealed[at+1]^byte(other)
				notOpened(t, string(hurt))
			}
			hurt[at], hurt[at+1] = sealed[at], sealed[at+1]
		}
	}
}
