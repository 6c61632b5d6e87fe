package bag_test

import (
	"math"
	"math/rand"
	"runtime"
	"strconv"
	"strings"
	"testing"

	"hourglass/api"
	"hourglass/bag"
)

// The limit is written out, so that a test tells when it is taken wrongly.
const mostFlight = 256

// flight is one that differs from that of every other number, in each part.
func flight(n int) bag.Flight {
	return bag.Flight{From: n, To: -n - 1, S: "flight " + strconv.Itoa(n), Hurt: n%3 == 2}
}

// flights are so many, from the number 0 on.
func flights(n int) []bag.Flight {
	var l []bag.Flight
	for k := range n {
		l = append(l, flight(k))
	}
	return l
}

// filled is a bag of such flights.
func filled(t *testing.T, l []bag.Flight) *bag.Bag {
	t.Helper()
	b := bag.New()
	for _, f := range l {
		send(t, b, f)
	}
	return b
}

func send(t *testing.T, b *bag.Bag, f bag.Flight) {
	t.Helper()
	if e := b.Send(f); e != api.OK {
		t.Fatalf("Send(%v) = %v", f, e)
	}
}

// others are the numbers of none of so many.
func others(n int) []int {
	return []int{math.MinInt, math.MinInt + 1, -mostFlight, -2, -1, n, n + 1, mostFlight, mostFlight + 1, 1 << 31, 1 << 50, math.MaxInt - 1, math.MaxInt}
}

// expect asks that a bag has these flights, in this order, and has lost so many.
func expect(t *testing.T, b *bag.Bag, l []bag.Flight, lost int) {
	t.Helper()
	if b.Len() != len(l) || b.Lost() != lost {
		t.Fatalf("%d flights, and %d lost, not %d and %d", b.Len(), b.Lost(), len(l), lost)
	}
	for k, want := range l {
		if got, e := b.Look(k); e != api.OK || got != want {
			t.Fatalf("Look(%d) = %v, %v, not %v", k, got, e, want)
		}
	}
	for _, k := range []int{-1, len(l)} {
		if got, e := b.Look(k); e != api.ErrNone || got != (bag.Flight{}) {
			t.Fatalf("of %d flights Look(%d) = %v, %v", len(l), k, got, e)
		}
	}
}

// rest is a new list, of all but the one of a number.
func rest(l []bag.Flight, k int) []bag.Flight {
	var left []bag.Flight
	for n, f := range l {
		if n != k {
			left = append(left, f)
		}
	}
	return left
}

// 13.1: a new bag is empty, and has lost nothing; each is another one.
func TestNew(t *testing.T) {
	a, b := bag.New(), bag.New()
	if a == nil || b == nil || a == b {
		t.Fatal("no new ones")
	}
	expect(t, a, nil, 0)
	send(t, a, flight(5))
	expect(t, a, []bag.Flight{flight(5)}, 0)
	expect(t, b, nil, 0)
	send(t, b, flight(6))
	expect(t, a, []bag.Flight{flight(5)}, 0)
	expect(t, b, []bag.Flight{flight(6)}, 0)
}

// 13.1: what is sent is the last one, as it was, whatever it is.
func TestSend(t *testing.T) {
	long := strings.Repeat("\x00\xff", 1<<16)
	l := []bag.Flight{
		{}, {From: 1}, {To: 1}, {S: "a"}, {Hurt: true}, {From: -1, To: math.MinInt}, {From: math.MaxInt, To: 64},
		{S: "\x00"}, {S: "\xff\xfe\x80"}, {S: "ä\u20ac"}, {S: long, Hurt: true}, {From: 3, To: 3, S: long}, {},
	}
	b := bag.New()
	for n, f := range l {
		send(t, b, f)
		expect(t, b, l[:n+1], 0)
	}
}

// 13.1: there are 256 at most; each one more is lost, and changes nothing else.
func TestFull(t *testing.T) {
	b := bag.New()
	for k := range mostFlight {
		send(t, b, flight(k))
		if b.Len() != k+1 || b.Lost() != 0 {
			t.Fatalf("%d flights, and %d lost, behind %d", b.Len(), b.Lost(), k+1)
		}
	}
	for n := range 300 {
		if e := b.Send(flight(1000 + n)); e != api.ErrFull {
			t.Fatalf("Send = %v", e)
		}
		expect(t, b, flights(mostFlight), n+1)
	}
	// There is room again, for one; what was lost stays so.
	if f, e := b.Take(7); e != api.OK || f != flight(7) {
		t.Fatal(f, e)
	}
	l := append(rest(flights(mostFlight), 7), flight(2000))
	send(t, b, flight(2000))
	expect(t, b, l, 300)
	if e := b.Send(flight(2001)); e != api.ErrFull {
		t.Fatalf("Send = %v", e)
	}
	expect(t, b, l, 301)
}

// 13.1: Look tells the flight of a number, which stays.
func TestLook(t *testing.T) {
	for _, n := range []int{0, 1, 2, 3, 17, mostFlight - 1, mostFlight} {
		b := filled(t, flights(n))
		for k := n - 1; k >= 0; k-- {
			for range 2 {
				if f, e := b.Look(k); e != api.OK || f != flight(k) {
					t.Fatalf("of %d flights Look(%d) = %v, %v", n, k, f, e)
				}
			}
		}
		expect(t, b, flights(n), 0)
	}
}

// 13.1: of a number of which there is none each call is ErrNone, and changes nothing.
func TestNone(t *testing.T) {
	for _, n := range []int{0, 1, 2, 17, mostFlight - 1, mostFlight} {
		b := filled(t, flights(n))
		for _, k := range others(n) {
			if k >= 0 && k < n {
				continue
			}
			if f, e := b.Look(k); e != api.ErrNone || f != (bag.Flight{}) {
				t.Errorf("of %d flights Look(%d) = %v, %v", n, k, f, e)
			}
			if f, e := b.Take(k); e != api.ErrNone || f != (bag.Flight{}) {
				t.Errorf("of %d flights Take(%d) = %v, %v", n, k, f, e)
			}
			if e := b.Twice(k); e != api.ErrNone {
				t.Errorf("of %d flights Twice(%d) = %v", n, k, e)
			}
			for _, l := range [][2]int{{0, 1}, {0, 0}, {-1, 256}, {99, 1}} {
				if e := b.Hurt(k, l[0], l[1]); e != api.ErrNone {
					t.Errorf("of %d flights Hurt(%d, %d, %d) = %v", n, k, l[0], l[1], e)
				}
			}
		}
		expect(t, b, flights(n), 0)
	}
}

// 13.1: what is taken is there no more; those behind it stand one place ahead, those ahead of it stay.
func TestTake(t *testing.T) {
	for _, n := range []int{1, 2, 3, 4, 9, mostFlight - 1, mostFlight} {
		for k := range n {
			b := filled(t, flights(n))
			if f, e := b.Take(k); e != api.OK || f != flight(k) {
				t.Fatalf("of %d flights Take(%d) = %v, %v", n, k, f, e)
			}
			left := rest(flights(n), k)
			expect(t, b, left, 0)
			send(t, b, flight(1000))
			expect(t, b, append(left, flight(1000)), 0)
		}
	}
}

// 13.1: all of five are taken, in each order, and others sent behind them.
func TestTakeAll(t *testing.T) {
	const n = 5
	for order := range 120 {
		b, l := filled(t, flights(n)), flights(n)
		for left := n; left > 0; left-- {
			k := order % left
			order /= left
			if f, e := b.Take(k); e != api.OK || f != l[k] {
				t.Fatalf("Take(%d) = %v, %v, not %v", k, f, e, l[k])
			}
			l = rest(l, k)
			expect(t, b, l, 0)
		}
		if f, e := b.Take(0); e != api.ErrNone || f != (bag.Flight{}) {
			t.Fatalf("of none Take(0) = %v, %v", f, e)
		}
		send(t, b, flight(7))
		expect(t, b, []bag.Flight{flight(7)}, 0)
	}
}

// 13.1: Twice is Send of the same flight, whole; the first one stays where it is.
func TestTwice(t *testing.T) {
	for _, n := range []int{1, 2, 3, 9, mostFlight - 1} {
		for k := range n {
			b := filled(t, flights(n))
			if e := b.Twice(k); e != api.OK {
				t.Fatalf("of %d flights Twice(%d) = %v", n, k, e)
			}
			expect(t, b, append(flights(n), flight(k)), 0)
		}
	}
	b := filled(t, flights(1))
	for n := 1; n < mostFlight; n++ {
		if e := b.Twice(n - 1); e != api.OK {
			t.Fatalf("Twice(%d) = %v", n-1, e)
		}
	}
	var l []bag.Flight
	for range mostFlight {
		l = append(l, flight(0))
	}
	expect(t, b, l, 0)
}

// 13.1: without room what is doubled is lost, as what is sent is.
func TestTwiceFull(t *testing.T) {
	b := filled(t, flights(mostFlight))
	for k := range mostFlight {
		if e := b.Twice(k); e != api.ErrFull {
			t.Fatalf("Twice(%d) = %v", k, e)
		}
		if b.Lost() != k+1 {
			t.Fatalf("%d lost, not %d", b.Lost(), k+1)
		}
	}
	if e := b.Twice(mostFlight); e != api.ErrNone {
		t.Fatalf("Twice(%d) = %v", mostFlight, e)
	}
	expect(t, b, flights(mostFlight), mostFlight)
}

// 13.1: any byte, by any number from 1 to 255, is put to what exclusive or makes of both, and no other one.
func TestHurt(t *testing.T) {
	var every []byte
	for c := range 256 {
		every = append(every, byte(c))
	}
	for at := range every {
		for by := 1; by <= 255; by++ {
			l := []bag.Flight{{From: 1, To: 2, S: "x"}, {From: 3, To: 4, S: string(every)}, {From: 5, To: 6, S: "y"}}
			b := filled(t, l)
			if e := b.Hurt(1, at, by); e != api.OK {
				t.Fatalf("Hurt(1, %d, %d) = %v", at, by, e)
			}
			l[1].S = string(every[:at]) + string([]byte{every[at] ^ byte(by)}) + string(every[at+1:])
			l[1].Hurt = true
			expect(t, b, l, 0)
		}
	}
}

// 13.1: each flight is hurt by its own number, at its first byte and its last one.
func TestHurtEach(t *testing.T) {
	for _, n := range []int{1, 2, 3, mostFlight} {
		for k := range n {
			for _, at := range []int{0, 1, 2} {
				var l []bag.Flight
				for from := range n {
					l = append(l, bag.Flight{From: from, S: "abc"})
				}
				b := filled(t, l)
				if e := b.Hurt(k, at, 0x20); e != api.OK {
					t.Fatalf("of %d flights Hurt(%d, %d, 32) = %v", n, k, at, e)
				}
				l[k].S, l[k].Hurt = []string{"Abc", "aBc", "abC"}[at], true
				expect(t, b, l, 0)
			}
		}
	}
}

// 13.1: at is one of the bytes, and by from 1 to 255; else it is ErrArg, and the flight is not hurt yet.
func TestHurtWrongly(t *testing.T) {
	for _, s := range []string{"", "a", "abc", "\u20ac", strings.Repeat("z", 300)} {
		l := []bag.Flight{{S: "longer than those of others"}, {From: 1, S: s}, {S: "too"}}
		b := filled(t, l)
		for _, at := range append(others(len(s)), 0, 1, 2, 3, 4) {
			for _, by := range []int{math.MinInt, -256, -255, -2, -1, 0, 1, 2, 255, 256, 257, 511, 1 << 32, 1<<32 + 1, math.MaxInt} {
				if at >= 0 && at < len(s) && by >= 1 && by <= 255 {
					continue
				}
				if e := b.Hurt(1, at, by); e != api.ErrArg {
					t.Fatalf("of %q Hurt(1, %d, %d) = %v", s, at, by, e)
				}
			}
		}
		expect(t, b, l, 0)
		want := api.OK
		if s == "" {
			want = api.ErrArg
		}
		if e := b.Hurt(1, 0, 255); e != want {
			t.Fatalf("of %q Hurt(1, 0, 255) = %v, not %v", s, e, want)
		}
	}
}

// 13.1: what is Hurt is not hurt again, whatever else is wrong, and however it came to be Hurt.
func TestHurtTwice(t *testing.T) {
	l := []bag.Flight{{S: "ab"}, {S: "cd", Hurt: true}, {Hurt: true}}
	b := filled(t, l)
	if e := b.Hurt(0, 1, 1); e != api.OK {
		t.Fatal(e)
	}
	l[0] = bag.Flight{S: "ac", Hurt: true}
	for k := range l {
		for _, at := range others(2) {
			for _, by := range []int{math.MinInt, -1, 0, 1, 255, 256, math.MaxInt} {
				if e := b.Hurt(k, at, by); e != api.ErrTwice {
					t.Fatalf("Hurt(%d, %d, %d) = %v", k, at, by, e)
				}
			}
		}
		for _, at := range []int{0, 1} {
			if e := b.Hurt(k, at, 1); e != api.ErrTwice {
				t.Fatalf("Hurt(%d, %d, 1) = %v", k, at, e)
			}
		}
	}
	expect(t, b, l, 0)
}

// 13.1: of two that were doubled each is hurt alone; what was hurt is doubled as it is.
func TestHurtAndTwice(t *testing.T) {
	b := filled(t, []bag.Flight{{From: 1, To: 2, S: "aaa"}})
	for k, e := range []api.Errno{b.Twice(0), b.Hurt(1, 0, 3), b.Twice(1), b.Twice(0), b.Hurt(0, 2, 3)} {
		if e != api.OK {
			t.Fatal(k, e)
		}
	}
	if e := b.Hurt(2, 0, 3); e != api.ErrTwice {
		t.Fatalf("Hurt(2, 0, 3) = %v", e)
	}
	expect(t, b, []bag.Flight{
		{From: 1, To: 2, S: "aab", Hurt: true}, {From: 1, To: 2, S: "baa", Hurt: true},
		{From: 1, To: 2, S: "baa", Hurt: true}, {From: 1, To: 2, S: "aaa"},
	}, 0)
}

// R4: what was handed in, and what was answered, stays as it is, whatever is hurt or taken later.
func TestNothingShared(t *testing.T) {
	given := bag.Flight{From: 1, To: 2, S: string([]byte("abcd"))}
	b := filled(t, []bag.Flight{given, given})
	told, _ := b.Look(0)
	if e := b.Hurt(0, 0, 1); e != api.OK {
		t.Fatal(e)
	}
	want := bag.Flight{From: 1, To: 2, S: "abcd"}
	if given != want || told != want {
		t.Fatal(given, told)
	}
	taken, _ := b.Take(0)
	send(t, b, flight(1))
	if (taken != bag.Flight{From: 1, To: 2, S: "`bcd", Hurt: true}) {
		t.Fatal(taken)
	}
	taken.S, taken.From, told.To = "else", 9, 9
	expect(t, b, []bag.Flight{want, flight(1)}, 0)
}

// What was taken is kept no more, wherever it stood.
func TestForgotten(t *testing.T) {
	const size = 1 << 16
	for _, last := range []int{0, 1} {
		b := bag.New()
		for range mostFlight {
			send(t, b, bag.Flight{S: strings.Repeat("x", size)})
		}
		full := used()
		for range mostFlight {
			if _, e := b.Take((b.Len() - 1) * last); e != api.OK {
				t.Fatal(e)
			}
		}
		if left := used(); left+mostFlight*size/2 > full {
			t.Errorf("%d bytes are kept of %d", left, full)
		}
		runtime.KeepAlive(b)
	}
}

// used is how many bytes are kept.
func used() uint64 {
	var m runtime.MemStats
	runtime.GC()
	runtime.ReadMemStats(&m)
	return m.HeapAlloc
}

// A nil one has none, whatever is asked.
func TestNil(t *testing.T) {
	var b *bag.Bag
	for _, k := range append(others(0), 0, 1) {
		if f, e := b.Look(k); e != api.ErrNil || f != (bag.Flight{}) {
			t.Errorf("Look(%d) = %v, %v", k, f, e)
		}
		if f, e := b.Take(k); e != api.ErrNil || f != (bag.Flight{}) {
			t.Errorf("Take(%d) = %v, %v", k, f, e)
		}
		if e := b.Twice(k); e != api.ErrNil {
			t.Errorf("Twice(%d) = %v", k, e)
		}
		for _, at := range []int{-1, 0, 1} {
			for _, by := range []int{0, 1, 256} {
				if e := b.Hurt(k, at, by); e != api.ErrNil {
					t.Errorf("Hurt(%d, %d, %d) = %v", k, at, by, e)
				}
			}
		}
		if e := b.Send(flight(1)); e != api.ErrNil {
			t.Errorf("Send = %v", e)
		}
		if b.Len() != 0 || b.Lost() != 0 {
			t.Errorf("%d flights, and %d lost", b.Len(), b.Lost())
		}
	}
}

// The chapter's example.
func TestExample(t *testing.T) {
	b := filled(t, flights(3))
	if f, e := b.Take(1); e != api.OK || f != flight(1) {
		t.Fatal(f, e)
	}
	expect(t, b, []bag.Flight{flight(0), flight(2)}, 0)
}

// 13.2: whatever seven steps are done with one flight, of each that it came to one byte is spoilt at the most.
func TestOneByte(t *testing.T) {
	const kinds, length = 7, 7
	scripts := 1
	for range length {
		scripts *= kinds
	}
	for script := range scripts {
		b := filled(t, []bag.Flight{{S: "aaa"}})
		for rest := script; rest > 0; rest /= kinds {
			switch kind := rest % kinds; kind {
			case 0:
				b.Twice(0)
			case 1:
				b.Twice(b.Len() - 1)
			case 2:
				// Taken, and sent again, as by one who has it in hand.
				f, _ := b.Take(0)
				send(t, b, f)
			default:
				b.Hurt((b.Len()-1)*(kind%2), kind/2-1, kind)
			}
		}
		for k := range b.Len() {
			f, e := b.Look(k)
			if n := spoilt(f.S, "aaa"); e != api.OK || n > 1 || f.Hurt != (n == 1) {
				t.Fatalf("script %d: Look(%d) = %v, %v", script, k, f, e)
			}
		}
	}
}

// spoilt is how many bytes of two texts, of one length, differ.
func spoilt(a, b string) int {
	n := 0
	for at := range len(a) {
		if len(b) != len(a) || a[at] != b[at] {
			n++
		}
	}
	return n
}

// model is flights in lists that are made anew at each step.
type model struct {
	l    []bag.Flight
	lost int
}

func (m *model) look(k int) (bag.Flight, api.Errno) {
	for n, f := range m.l {
		if n == k {
			return f, api.OK
		}
	}
	return bag.Flight{}, api.ErrNone
}

func (m *model) send(f bag.Flight) api.Errno {
	if len(m.l) == mostFlight {
		m.lost++
		return api.ErrFull
	}
	m.l = append(rest(m.l, -1), f)
	return api.OK
}

func (m *model) take(k int) (bag.Flight, api.Errno) {
	f, e := m.look(k)
	m.l = rest(m.l, k)
	return f, e
}

func (m *model) twice(k int) api.Errno {
	f, e := m.look(k)
	if e != api.OK {
		return e
	}
	return m.send(f)
}

func (m *model) hurt(k, at, by int) api.Errno {
	f, e := m.look(k)
	if e != api.OK {
		return e
	}
	if f.Hurt {
		return api.ErrTwice
	}
	for n := range len(f.S) {
		if n == at && by > 0 && by < 256 {
			f.S, f.Hurt = f.S[:n]+string([]byte{f.S[n] ^ byte(by)})+f.S[n+1:], true
			m.l = rest(m.l, -1)
			m.l[k] = f
			return api.OK
		}
	}
	return api.ErrArg
}

// 13.1: whatever is done, in whichever order, is as the model says.
func TestAsTheModel(t *testing.T) {
	for seed := range int64(300) {
		r := rand.New(rand.NewSource(seed))
		b, m := bag.New(), &model{}
		if r.Intn(2) == 0 {
			for range 250 {
				f := flight(r.Intn(50))
				send(t, b, f)
				m.send(f)
			}
		}
		for step := range 150 {
			k := r.Intn(len(m.l)+3) - 1
			switch r.Intn(5) {
			case 0:
				got, e := b.Take(k)
				if want, e2 := m.take(k); got != want || e != e2 {
					t.Fatalf("seed %d: Take(%d) = %v, %v, not %v, %v", seed, k, got, e, want, e2)
				}
			case 1:
				if got, want := b.Twice(k), m.twice(k); got != want {
					t.Fatalf("seed %d: Twice(%d) = %v, not %v", seed, k, got, want)
				}
			case 2:
				at, by := r.Intn(13)-1, r.Intn(260)-2
				if got, want := b.Hurt(k, at, by), m.hurt(k, at, by); got != want {
					t.Fatalf("seed %d: Hurt(%d, %d, %d) = %v, not %v", seed, k, at, by, got, want)
				}
			default:
				f := flight(r.Intn(1000))
				if got, want := b.Send(f), m.send(f); got != want {
					t.Fatalf("seed %d: Send(%v) = %v, not %v", seed, f, got, want)
				}
			}
			if step%10 == 0 {
				expect(t, b, m.l, m.lost)
			}
		}
		expect(t, b, m.l, m.lost)
	}
}
