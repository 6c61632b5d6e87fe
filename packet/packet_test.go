package packet_test

import (
	"math"
	"math/big"
	"strings"
	"testing"

	"hourglass/api"
	"hourglass/crc"
	"hourglass/packet"
)

// The limits, written out.
const (
	maxTick  = 1125899906842624
	maxValue = 2147483647
	maxInc   = 65535
	maxSeq   = 16777215
)

// far are numbers that no field but Delay, of which -1 may be, has at all.
var far = []int{-1, -2, -256, math.MinInt32, math.MinInt, math.MinInt + 1, maxTick + 1, 1 << 51, 1 << 56, 1<<56 + 1, 1 << 62, math.MaxInt - 1, math.MaxInt}

func id(node, inc, seq int) api.Id {
	return api.Id{Node: node, Inc: inc, Seq: seq}
}

func key(node, inc, seq, att int) api.Key {
	return api.Key{Id: id(node, inc, seq), Att: att}
}

// Packets that may be, one of each kind (and a Reply with More), with none of the numbers twice.
func aCall() api.Packet {
	return api.Packet{Kind: 1, From: 17, To: 34, Key: key(51, 18, 52, 1), Hop: 9, Stamp: 0x123456789ABCD, Timeout: "250m", Until: 0x2468ACE13579B, Program: 11, Root: id(7, 258, 65793), Parent: key(8, 513, 197121, 3)}
}

func aReply() api.Packet {
	return api.Packet{Kind: 2, From: 17, To: 34, Key: key(51, 18, 52, 1), Code: 14, Value: 0x12345678}
}

func aMore() api.Packet {
	return api.Packet{Kind: 2, From: 17, To: 34, Key: key(51, 18, 52, 1), More: true}
}

func aCancel() api.Packet {
	return api.Packet{Kind: 3, From: 17, To: 34, Key: key(51, 18, 52, 1)}
}

func aKeep() api.Packet {
	return api.Packet{Kind: 4, From: 17, To: 34, Key: key(51, 18, 52, 1), Until: 0x2468ACE13579B}
}

func aPush() api.Packet {
	return api.Packet{Kind: 5, From: 17, To: 34, Key: key(51, 18, 52, 1), Delay: 0x123456789ABCD}
}

// ofEachKind are all of these.
func ofEachKind() []api.Packet {
	return []api.Packet{aCall(), aReply(), aMore(), aCancel(), aKeep(), aPush()}
}

// whole is a packet that has everything, of whatever kind.
func whole(kind int) api.Packet {
	p := aCall()
	p.Kind, p.Code, p.Value, p.More, p.Delay = kind, 14, 0x12345678, true, 77
	return p
}

// numbers tells where a packet's numbers stand, by their names.
func numbers(p *api.Packet) map[string]*int {
	return map[string]*int{
		"From": &p.From, "To": &p.To, "Key.Id.Node": &p.Key.Id.Node, "Key.Id.Inc": &p.Key.Id.Inc, "Key.Id.Seq": &p.Key.Id.Seq, "Key.Att": &p.Key.Att,
		"Hop": &p.Hop, "Stamp": &p.Stamp, "Until": &p.Until, "Program": &p.Program, "Root.Node": &p.Root.Node, "Root.Inc": &p.Root.Inc, "Root.Seq": &p.Root.Seq,
		"Parent.Id.Node": &p.Parent.Id.Node, "Parent.Id.Inc": &p.Parent.Id.Inc, "Parent.Id.Seq": &p.Parent.Id.Seq, "Parent.Att": &p.Parent.Att,
		"Code": &p.Code, "Value": &p.Value, "Delay": &p.Delay,
	}
}

// limit is the least and the greatest that a number may be.
type limit struct {
	name            string
	least, greatest int
}

// headLimits are those of what every one has.
func headLimits() []limit {
	return []limit{{"From", 0, 63}, {"To", 0, 63}, {"Key.Id.Node", 0, 63}, {"Key.Id.Inc", 0, maxInc}, {"Key.Id.Seq", 1, maxSeq}, {"Key.Att", 1, 5}}
}

// restLimits are those of what a packet has besides.
func restLimits(p api.Packet) []limit {
	switch {
	case p.Kind == 1:
		return []limit{{"Hop", 1, 16}, {"Stamp", 0, maxTick}, {"Until", 0, maxTick}, {"Program", 0, 15}, {"Root.Node", 0, 63}, {"Root.Inc", 0, maxInc}, {"Root.Seq", 1, maxSeq},
			{"Parent.Id.Node", 0, 63}, {"Parent.Id.Inc", 0, maxInc}, {"Parent.Id.Seq", 1, maxSeq}, {"Parent.Att", 0, 5}}
	case p.Kind == 2 && !p.More:
		return []limit{{"Code", 0, 16}, {"Value", 0, maxValue}}
	case p.Kind == 4:
		return []limit{{"Until", 0, maxTick}}
	case p.Kind == 5:
		return []limit{{"Delay", -1, maxTick}}
	}
	return nil
}

// limits are those of all that a packet has.
func limits(p api.Packet) []limit {
	return append(headLimits(), restLimits(p)...)
}

// timeouts are texts that can be decoded, and noTimeouts are texts that can't.
var (
	timeouts   = []string{"0u", "1n", "7u", "250m", "5S", "5M", "1H", "00S", "00000007u", "99999999H", "99999999n"}
	noTimeouts = []string{"", "7", "u", "7x", "7U", "7h", " 7u", "7u ", "-7u", "+7u", "7.5u", "u7", "7\x00", "\x007u", "123456789u", "0000000000u", "7uu", "a7u", "99999999\xff", strings.Repeat("1", 255), strings.Repeat("1", 300) + "u"}
)

// edges are packets that may be: each number at both of its edges, within them, and all numbers at once.
func edges() []api.Packet {
	var l []api.Packet
	for _, p := range ofEachKind() {
		l = append(l, p)
		low, high := p, p
		for _, m := range limits(p) {
			for _, n := range []int{m.least, m.least + 1, (m.least + m.greatest) / 2, m.greatest - 1, m.greatest} {
				q := p
				*numbers(&q)[m.name] = n
				l = append(l, q)
			}
			*numbers(&low)[m.name], *numbers(&high)[m.name] = m.least, m.greatest
		}
		l = append(l, low, high)
	}
	for _, s := range timeouts {
		p := aCall()
		p.Timeout = s
		l = append(l, p)
	}
	for c := range 17 {
		p := aReply()
		p.Code = c
		l = append(l, p)
	}
	return append(l, otherCalls()...)
}

// otherCalls are Calls whose parts are the same as others of their parts, which may be.
func otherCalls() []api.Packet {
	self := aCall()
	self.To, self.Root, self.Parent, self.Until = self.From, self.Key.Id, self.Key, self.Stamp
	ofRoot := aCall()
	ofRoot.Parent = api.Key{Id: ofRoot.Root}
	back := aCall()
	back.Until, back.Stamp = 0, maxTick
	return []api.Packet{self, ofRoot, back}
}

// 8.1: written out, what each kind has.
func TestClean(t *testing.T) {
	all := whole(0)
	head := api.Packet{From: all.From, To: all.To, Key: all.Key}
	call := aCall()
	reply, keep, push := head, head, head
	reply.Code, reply.Value, reply.More = 14, 0x12345678, true
	keep.Until = all.Until
	push.Delay = 77
	for kind, want := range map[int]api.Packet{1: call, 2: reply, 3: head, 4: keep, 5: push, 0: head, 6: head, -1: head, 255: head, 257: head, math.MinInt: head, math.MaxInt: head} {
		want.Kind = kind
		if got := packet.Clean(whole(kind)); got != want {
			t.Errorf("Clean of the kind %d is %v, not %v", kind, got, want)
		}
	}
}

// 8.1: numbers stay, whether they may be or not; what is clean stays as it is.
func TestCleanStays(t *testing.T) {
	for _, p := range edges() {
		if got := packet.Clean(p); got != p {
			t.Errorf("Clean(%v) = %v", p, got)
		}
	}
	for _, p := range ofEachKind() {
		for _, m := range limits(p) {
			for _, n := range far {
				q := p
				*numbers(&q)[m.name] = n
				if got := packet.Clean(q); got != q {
					t.Errorf("Clean(%v) = %v", q, got)
				}
			}
		}
	}
	for kind := -2; kind <= 8; kind++ {
		once := packet.Clean(whole(kind))
		if packet.Clean(once) != once {
			t.Errorf("of the kind %d it is not clean yet", kind)
		}
	}
	if packet.Clean(api.Packet{}) != (api.Packet{}) {
		t.Error("the zero one is not clean")
	}
	p := api.Packet{Kind: 1, Timeout: strings.Repeat("1", 300)}
	if packet.Clean(p) != p {
		t.Error("a long timeout does not stay")
	}
}

// 8.1: which may be.
func TestRight(t *testing.T) {
	for _, p := range edges() {
		if !packet.Right(p) {
			t.Errorf("%v may not be", p)
		}
	}
}

// 8.1: each number beyond its edges, just so, and far.
func TestRightBeyond(t *testing.T) {
	for _, p := range ofEachKind() {
		for _, m := range limits(p) {
			q := p
			for _, n := range append([]int{m.least - 1, m.least - 2, m.least - 256, m.greatest + 1, m.greatest + 2, m.greatest + 256, m.greatest + 1<<32}, far...) {
				*numbers(&q)[m.name] = n
				if inside := n >= m.least && n <= m.greatest; packet.Right(q) != inside {
					t.Errorf("of the kind %d, with %s %d: %t", p.Kind, m.name, n, !inside)
				}
			}
		}
	}
}

// 8.1: small numbers, one by one.
func TestRightOneByOne(t *testing.T) {
	for _, p := range ofEachKind() {
		for _, m := range limits(p) {
			for n := -300; n <= 300; n++ {
				q := p
				*numbers(&q)[m.name] = n
				if inside := n >= m.least && n <= m.greatest; packet.Right(q) != inside {
					t.Errorf("of the kind %d, with %s %d: %t", p.Kind, m.name, n, !inside)
				}
			}
		}
	}
}

// 8.1: timeouts that can't be decoded.
func TestRightTimeout(t *testing.T) {
	for _, s := range noTimeouts {
		p := aCall()
		p.Timeout = s
		if packet.Right(p) {
			t.Errorf("a Call with the timeout %.40q may be", s)
		}
	}
}

// 8.1: of what a kind has not, nothing may be there.
func TestRightNotClean(t *testing.T) {
	for _, p := range ofEachKind() {
		has := map[string]bool{}
		for _, m := range limits(p) {
			has[m.name] = true
		}
		for name := range numbers(&p) {
			for _, n := range []int{1, -1, 5, math.MinInt, math.MaxInt} {
				q := p
				*numbers(&q)[name] = n
				if !has[name] && packet.Right(q) {
					t.Errorf("of the kind %d, with %s %d it may be", p.Kind, name, n)
				}
			}
		}
		for _, s := range []string{"7u", "x", "\x00"} {
			if q := p; p.Kind != 1 {
				q.Timeout = s
				if packet.Right(q) {
					t.Errorf("of the kind %d, with a timeout it may be", p.Kind)
				}
			}
		}
		if q := p; p.Kind != 2 {
			q.More = true
			if packet.Right(q) {
				t.Errorf("of the kind %d, with More it may be", p.Kind)
			}
		}
	}
}

// 8.1: a Reply with More has no result.
func TestRightMore(t *testing.T) {
	for _, c := range []struct {
		code, value int
		more, want  bool
	}{
		{0, 0, true, true}, {1, 0, true, false}, {0, 1, true, false}, {16, maxValue, true, false}, {17, 0, true, false}, {-1, 0, true, false}, {0, -1, true, false}, {-1, 1, true, false}, {2, 0, true, false},
		{0, 0, false, true}, {1, 0, false, true}, {0, 1, false, true}, {16, maxValue, false, true}, {17, 0, false, false}, {-1, 0, false, false}, {0, maxValue + 1, false, false},
	} {
		p := aReply()
		p.Code, p.Value, p.More = c.code, c.value, c.more
		if got := packet.Right(p); got != c.want {
			t.Errorf("with the code %d, the value %d, More %t: %t", c.code, c.value, c.more, got)
		}
	}
}

// 8.1: no other kind may be, not even with nothing but what every one has.
func TestRightKind(t *testing.T) {
	for _, kind := range []int{0, -1, -5, 6, 7, 14, 255, 256, 257, 258, 261, 1 << 32, 1<<32 + 3, math.MinInt, math.MaxInt} {
		p := aCancel()
		p.Kind = kind
		if packet.Right(p) || packet.Right(whole(kind)) {
			t.Errorf("of the kind %d it may be", kind)
		}
	}
	if packet.Right(api.Packet{}) {
		t.Error("the zero one may be")
	}
}

// The bytes that every one of ofEachKind has behind its kind.
const headBytes = "\x11\x22\x33\x00\x12\x00\x00\x34\x01"

// 8.2: bytes, written out.
func TestCode(t *testing.T) {
	least := api.Packet{Kind: 5, From: 0, To: 63, Key: key(0, 0, 1, 1), Delay: -1}
	none := least
	none.Delay = 0
	most := least
	most.Delay = maxTick
	for _, c := range []struct {
		p    api.Packet
		want string
	}{
		{aCall(), "\x01" + headBytes + "\x09" + "\x01\x23\x45\x67\x89\xab\xcd" + "\x04250m" + "\x02\x46\x8a\xce\x13\x57\x9b" + "\x0b" + "\x07\x01\x02\x01\x01\x01" + "\x08\x02\x01\x03\x02\x01\x03"},
		{aReply(), "\x02" + headBytes + "\x0e" + "\x12\x34\x56\x78" + "\x00"},
		{aMore(), "\x02" + headBytes + "\x00" + "\x00\x00\x00\x00" + "\x01"},
		{aCancel(), "\x03" + headBytes},
		{aKeep(), "\x04" + headBytes + "\x02\x46\x8a\xce\x13\x57\x9b"},
		{aPush(), "\x05" + headBytes + "\x01\x23\x45\x67\x89\xab\xce"},
		{least, "\x05\x00\x3f\x00\x00\x00\x00\x00\x01\x01" + "\x00\x00\x00\x00\x00\x00\x00"},
		{none, "\x05\x00\x3f\x00\x00\x00\x00\x00\x01\x01" + "\x00\x00\x00\x00\x00\x00\x01"},
		{most, "\x05\x00\x3f\x00\x00\x00\x00\x00\x01\x01" + "\x04\x00\x00\x00\x00\x00\x01"},
	} {
		if got := packet.Code(c.p); got != crc.Seal(c.want) {
			t.Errorf("Code(%v) = %q, not the seal of %q", c.p, got, c.want)
		}
		if got, e := packet.Parse(crc.Seal(c.want)); got != c.p || e != api.OK {
			t.Errorf("Parse of the seal of %q = %v, %v", c.want, got, e)
		}
	}
}

// modelSum is the sum of 3.1, bit by bit.
func modelSum(s string) string {
	c := uint16(0xFFFF)
	for i := range len(s) {
		c ^= uint16(s[i]) << 8
		for range 8 {
			out := c >> 15
			c <<= 1
			if out == 1 {
				c ^= 0x1021
			}
		}
	}
	return string([]byte{byte(c >> 8), byte(c)})
}

// modelNum is a number of so many bytes.
func modelNum(n, width int) string {
	return string(big.NewInt(int64(n)).FillBytes(make([]byte, width)))
}

// modelKey is a key's bytes.
func modelKey(k api.Key) string {
	return modelId(k.Id) + modelNum(k.Att, 1)
}

// modelId is an identity's bytes.
func modelId(d api.Id) string {
	return modelNum(d.Node, 1) + modelNum(d.Inc, 2) + modelNum(d.Seq, 3)
}

// modelBody is what 8.2 says, unsealed.
func modelBody(p api.Packet) string {
	s := modelNum(p.Kind, 1) + modelNum(p.From, 1) + modelNum(p.To, 1) + modelKey(p.Key)
	switch p.Kind {
	case 1:
		s += modelNum(p.Hop, 1) + modelNum(p.Stamp, 7) + modelNum(len(p.Timeout), 1) + p.Timeout + modelNum(p.Until, 7) + modelNum(p.Program, 1) + modelId(p.Root) + modelKey(p.Parent)
	case 2:
		more := 0
		if p.More {
			more = 1
		}
		s += modelNum(p.Code, 1) + modelNum(p.Value, 4) + modelNum(more, 1)
	case 4:
		s += modelNum(p.Until, 7)
	case 5:
		s += modelNum(1+p.Delay, 7)
	}
	return s
}

// 8.2: as the model, and as long as it should be.
func TestCodeAsTheModel(t *testing.T) {
	sizes := map[int]int{1: 42, 2: 18, 3: 12, 4: 19, 5: 19}
	for _, p := range edges() {
		body := modelBody(p)
		got := packet.Code(p)
		if got != body+modelSum(body) {
			t.Errorf("Code(%v) = %q", p, got)
		}
		if len(got) != sizes[p.Kind]+len(p.Timeout) {
			t.Errorf("Code(%v) has %d bytes", p, len(got))
		}
	}
}

// modelReader reads a body, as far as it can: with anything wrong it panics with that.
type modelReader struct{ rest string }

func (m *modelReader) bytes(width int) string {
	if width > len(m.rest) {
		panic(api.ErrSize)
	}
	s := m.rest[:width]
	m.rest = m.rest[width:]
	return s
}

func (m *modelReader) num(width int) int {
	return int(new(big.Int).SetBytes([]byte(m.bytes(width))).Int64())
}

func (m *modelReader) id() api.Id {
	d := id(m.num(1), m.num(2), m.num(3))
	if d.Node > 63 || d.Seq == 0 {
		panic(api.ErrArg)
	}
	return d
}

func (m *modelReader) key() api.Key {
	k := api.Key{Id: m.id(), Att: m.num(1)}
	if k.Att > 5 {
		panic(api.ErrArg)
	}
	return k
}

func (m *modelReader) flag() bool {
	n := m.num(1)
	if n > 1 {
		panic(api.ErrForm)
	}
	return n == 1
}

// packet reads what a body tells, by its kind.
func (m *modelReader) packet() api.Packet {
	p := api.Packet{Kind: m.num(1), From: m.num(1), To: m.num(1), Key: m.key()}
	switch p.Kind {
	case 1:
		p.Hop, p.Stamp = m.num(1), m.num(7)
		p.Timeout = m.bytes(m.num(1))
		p.Until, p.Program, p.Root, p.Parent = m.num(7), m.num(1), m.id(), m.key()
	case 2:
		p.Code, p.Value, p.More = m.num(1), m.num(4), m.flag()
	case 3:
	case 4:
		p.Until = m.num(7)
	case 5:
		p.Delay = m.num(7) - 1
	default:
		panic(api.ErrKind)
	}
	return p
}

// modelTimeout tells whether a text can be decoded.
func modelTimeout(s string) bool {
	digits := strings.TrimRight(s, "HMSmun")
	return len(s) >= 2 && len(s) <= 9 && len(digits) == len(s)-1 && strings.Trim(digits, "0123456789") == ""
}

// modelRight is 8.1, of what can be read.
func modelRight(p api.Packet) bool {
	if p.From > 63 || p.To > 63 || p.Key.Att < 1 {
		return false
	}
	switch p.Kind {
	case 1:
		return p.Hop >= 1 && p.Hop <= 16 && p.Stamp <= maxTick && p.Until <= maxTick && p.Program <= 15 && modelTimeout(p.Timeout)
	case 2:
		return p.Code <= 16 && p.Value <= maxValue && (!p.More || p.Code == 0 && p.Value == 0)
	}
	return p.Until <= maxTick && p.Delay <= maxTick
}

// modelParse is what 8.2 says of a body that is sealed.
func modelParse(body string) (p api.Packet, e api.Errno) {
	defer func() {
		if wrong := recover(); wrong != nil {
			p, e = api.Packet{}, wrong.(api.Errno)
		}
	}()
	m := &modelReader{body}
	p = m.packet()
	if m.rest != "" {
		panic(api.ErrForm)
	}
	if !modelRight(p) {
		panic(api.ErrArg)
	}
	return p, api.OK
}

// parsesAsTheModel asks both for the packet of a body, which is sealed for it.
func parsesAsTheModel(t *testing.T, body string) {
	t.Helper()
	got, e := packet.Parse(body + modelSum(body))
	if want, is := modelParse(body); got != want || e != is {
		t.Errorf("of the seal of %q: %v, %v, not %v, %v", body, got, e, want, is)
	}
}

// refused asks whether a text is told as an error.
func refused(t *testing.T, s string, want api.Errno) {
	t.Helper()
	if got, e := packet.Parse(s); got != (api.Packet{}) || e != want {
		t.Errorf("Parse(%.80q) = %v, %v, not %v", s, got, e, want)
	}
}

// 8.2: what has no seal, or another one's, whatever stands in it.
func TestParseSum(t *testing.T) {
	for _, s := range []string{"", "\x00", "\xff", "\x03", "\xff\xfe", "\x00\x00", "\x03" + headBytes, "\x03" + headBytes + "\x00\x00", "\x09\x00\x00", strings.Repeat("\x00", 12), strings.Repeat("\xff", 100000)} {
		refused(t, s, api.ErrSum)
	}
	for _, p := range ofEachKind() {
		s := packet.Code(p)
		for _, wrong := range []string{s[:len(s)-1], s[:len(s)-2], s[1:], s + "\x01", "\x00" + s, s + s, s[:len(s)-2] + s[len(s)-1:] + s[len(s)-2:len(s)-1], modelBody(p)} {
			refused(t, wrong, api.ErrSum)
		}
	}
}

// 8.2: at whatever place a body is cut.
func TestParseShort(t *testing.T) {
	for _, p := range edges() {
		body := modelBody(p)
		for i := range len(body) {
			refused(t, crc.Seal(body[:i]), api.ErrSize)
		}
	}
}

// 8.2: what is left, behind all kinds; where something else was wrong ahead, that is told.
func TestParseLeft(t *testing.T) {
	for _, p := range ofEachKind() {
		for _, behind := range []string{"\x00", "\x01", "x", "\xff", "\x00\x00", packet.Code(p), strings.Repeat("\x00", 300), strings.Repeat("x", 100000)} {
			refused(t, crc.Seal(modelBody(p)+behind), api.ErrForm)
			// What may not be, but was not read wrongly, is asked for last.
			q := p
			q.From, q.Key.Att = 64, 0
			refused(t, crc.Seal(modelBody(q)+behind), api.ErrForm)
			q.Key.Id.Seq = 0
			refused(t, crc.Seal(modelBody(q)+behind), api.ErrArg)
			q = p
			q.Key.Att = 6
			refused(t, crc.Seal(modelBody(q)+behind), api.ErrArg)
			q = p
			q.Kind = 6
			refused(t, crc.Seal(modelBody(q)+behind), api.ErrKind)
		}
	}
}

// 8.2: kinds that are none, behind the key: what is wrong in that comes first.
func TestParseKind(t *testing.T) {
	for kind := range 256 {
		k := modelNum(kind, 1)
		if kind >= 1 && kind <= 5 {
			continue
		}
		for i := range len(headBytes) {
			refused(t, crc.Seal(k+headBytes[:i]), api.ErrSize)
		}
		refused(t, crc.Seal(k+headBytes), api.ErrKind)
		refused(t, crc.Seal(k+headBytes+"\x00"), api.ErrKind)
		refused(t, crc.Seal(k+"\x40\xff"+headBytes[2:]), api.ErrKind)
		refused(t, crc.Seal(k+"\x11\x22\x40"+headBytes[3:]), api.ErrArg)
		refused(t, crc.Seal(k+headBytes[:5]+"\x00\x00\x00\x01"), api.ErrArg)
		refused(t, crc.Seal(k+headBytes[:8]+"\x06"), api.ErrArg)
		refused(t, crc.Seal(k+headBytes[:8]+"\x00"), api.ErrKind)
	}
}

// 8.2: what may not be.
func TestParseArg(t *testing.T) {
	widest := map[string]int{"Key.Id.Inc": 65535, "Key.Id.Seq": maxSeq, "Root.Inc": 65535, "Root.Seq": maxSeq, "Parent.Id.Inc": 65535, "Parent.Id.Seq": maxSeq, "Stamp": 1<<56 - 1, "Until": 1<<56 - 1, "Delay": 1<<56 - 2, "Value": 1<<32 - 1}
	for _, p := range ofEachKind() {
		for _, m := range limits(p) {
			most := widest[m.name]
			if most == 0 {
				most = 255
			}
			for _, n := range []int{m.least - 1, m.greatest + 1, (m.greatest + most) / 2, most} {
				q := p
				*numbers(&q)[m.name] = n
				told := n >= 0 && n <= most
				if told && (n < m.least || n > m.greatest) {
					refused(t, crc.Seal(modelBody(q)), api.ErrArg)
				}
			}
		}
	}
	for _, s := range noTimeouts {
		p := aCall()
		p.Timeout = s
		if len(s) <= 255 {
			refused(t, crc.Seal(modelBody(p)), api.ErrArg)
		}
	}
	for _, c := range [][2]int{{1, 0}, {0, 1}, {14, 7}, {17, 0}, {0, maxValue}, {255, 1<<32 - 1}} {
		p := aMore()
		p.Code, p.Value = c[0], c[1]
		refused(t, crc.Seal(modelBody(p)), api.ErrArg)
	}
}

// 8.2: flags that are none, ahead of a result that may not be, and of what is left; but behind a key that may not be.
func TestParseFlag(t *testing.T) {
	for flag := 2; flag < 256; flag++ {
		f := modelNum(flag, 1)
		refused(t, crc.Seal("\x02"+headBytes+"\x00\x00\x00\x00\x00"+f), api.ErrForm)
		refused(t, crc.Seal("\x02"+headBytes+"\x11\xff\xff\xff\xff"+f), api.ErrForm)
		refused(t, crc.Seal("\x02"+headBytes+"\x00\x00\x00\x00\x00"+f+"\x00"), api.ErrForm)
		refused(t, crc.Seal("\x02"+headBytes[:8]+"\x06\x00\x00\x00\x00\x00"+f), api.ErrArg)
	}
}

// 8.2: names within a Call, that may not be, are read wrongly: that is told ahead of what is missing behind, or left.
func TestParseNames(t *testing.T) {
	body := modelBody(aCall())
	root := len(body) - 13
	for _, c := range []struct {
		body string
		want api.Errno
	}{
		{body[:root] + "\x40" + body[root+1:], api.ErrArg},
		{body[:root] + "\x40" + body[root+1:] + "x", api.ErrArg},
		{body[:root] + "\x40\x00\x00\x00\x00\x01", api.ErrArg},
		{body[:root] + "\x40\x00\x00\x00\x00", api.ErrSize},
		{body[:root] + "\x00\x00\x00\x00\x00\x00" + body[root+6:], api.ErrArg},
		{body[:root] + "\x00\x00\x00\x00\x00\x00" + body[root+6:] + "x", api.ErrArg},
		{body[:root+6] + "\x40\x00\x00\x00\x00\x01", api.ErrArg},
		{body[:root+6] + "\x3f\x00\x00\x00\x00\x01", api.ErrSize},
		{body[:root+6] + "\x3f\x00\x00\x00\x00\x00\x00x", api.ErrArg},
		{body[:root+6] + "\x3f\x00\x00\x00\x00\x01\x06x", api.ErrArg},
		{body[:root+6] + "\x3f\x00\x00\x00\x00\x01\x05x", api.ErrForm},
		{body[:10] + "\x00" + body[11:] + "x", api.ErrForm},
		{body[:10] + "\x00" + body[11:root] + "\x40" + body[root+1:], api.ErrArg},
		{body[:18] + "\xff" + body[19:], api.ErrSize},
		{body[:18] + "\x05" + body[19:], api.ErrSize},
		{body[:18] + "\x00" + body[23:], api.ErrArg},
		{body[:18] + "\x00" + body[23:] + "x", api.ErrForm},
	} {
		refused(t, crc.Seal(c.body), c.want)
	}
}

// 8.2: as the model, of bodies of which a byte is another one, is there besides, or is gone, sealed again.
func TestParseAsTheModel(t *testing.T) {
	short := aCall()
	short.Timeout = "7u"
	for _, p := range append(ofEachKind(), short, otherCalls()[1]) {
		body := modelBody(p)
		for i := range len(body) + 1 {
			parsesAsTheModel(t, body[:i])
			parsesAsTheModel(t, body[i:])
			for b := range 256 {
				c := string([]byte{byte(b)})
				parsesAsTheModel(t, body[:i]+c+body[i:])
				if i < len(body) {
					parsesAsTheModel(t, body[:i]+c+body[i+1:])
				}
			}
			for n := i + 1; n <= len(body); n++ {
				parsesAsTheModel(t, body[:i]+body[n:])
			}
		}
	}
}

// 8.2: as the model, of bodies of which two bytes, at any two places, are the same other one.
func TestParseTwoBytes(t *testing.T) {
	for _, p := range ofEachKind() {
		body := modelBody(p)
		for i := range len(body) {
			for j := range i {
				for _, c := range []string{"\x00", "\x01", "\x02", "\x06", "\x40", "\x80", "\xff"} {
					parsesAsTheModel(t, body[:j]+c+body[j+1:i]+c+body[i+1:])
				}
			}
		}
	}
}

// 8.3: what may be is parsed as it was told.
func TestToldAndParsed(t *testing.T) {
	for _, p := range edges() {
		if got, e := packet.Parse(packet.Code(p)); got != p || e != api.OK {
			t.Errorf("%v is parsed as %v, %v", p, got, e)
		}
	}
}

// 8.3: no two that may be have the same bytes.
func TestToldApart(t *testing.T) {
	whose := map[string]api.Packet{}
	for _, p := range edges() {
		s := packet.Code(p)
		if q, there := whose[s]; there && q != p {
			t.Errorf("%v and %v have the same bytes", p, q)
		}
		whose[s] = p
	}
}

// 8.3: any one byte is another one, those of the sum too.
func TestHurt(t *testing.T) {
	for _, p := range edges() {
		s := packet.Code(p)
		for i := range len(s) {
			for b := range 256 {
				if s[i] != byte(b) {
					refused(t, s[:i]+string([]byte{byte(b)})+s[i+1:], api.ErrSum)
				}
			}
		}
	}
}

// P1: each call ends, of whatever packet.
func TestWrongEnds(t *testing.T) {
	for _, p := range append(ofEachKind(), whole(0), whole(1), whole(5), whole(6), whole(math.MinInt), api.Packet{}) {
		for name := range numbers(&p) {
			for _, n := range far {
				q := p
				*numbers(&q)[name] = n
				packet.Clean(q)
				packet.Right(q)
				packet.Code(q)
			}
		}
		for _, s := range noTimeouts {
			q := p
			q.Timeout = s
			packet.Clean(q)
			packet.Right(q)
			packet.Code(q)
		}
	}
}
