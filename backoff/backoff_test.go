package backoff_test

import (
	"math"
	"math/big"
	"math/rand"
	"testing"

	"hourglass/backoff"
)

// The greatest time and the whole of a jitter are written out, so that a test tells when they are taken wrongly.
const (
	tick  = 1 << 50
	whole = 1000
)

func expectStep(t *testing.T, base, most, attempt, want int) {
	t.Helper()
	if got := backoff.Step(base, most, attempt); got != want {
		t.Errorf("Step(%d, %d, %d) = %d, not %d", base, most, attempt, got, want)
	}
}

func expectDelay(t *testing.T, base, most, attempt, jitter, want int) {
	t.Helper()
	if got := backoff.Delay(base, most, attempt, jitter); got != want {
		t.Errorf("Delay(%d, %d, %d, %d) = %d, not %d", base, most, attempt, jitter, got, want)
	}
}

func expectJitter(t *testing.T, node, seq, attempt, want int) {
	t.Helper()
	if got := backoff.Jitter(node, seq, attempt); got != want {
		t.Errorf("Jitter(%d, %d, %d) = %d, not %d", node, seq, attempt, got, want)
	}
}

// held is the nearest number to n that is from 0 to most.
func held(n, most int) int {
	switch {
	case n < 0:
		return 0
	case n > most:
		return most
	}
	return n
}

// step is the wait by the rule, in numbers that never run over, and cut off at the end alone.
func step(base, most, attempt int) int {
	doublings := 0
	if attempt > 1 {
		doublings = attempt - 1
	}
	if doublings > 64 {
		doublings = 64
	}
	d := new(big.Int).Lsh(big.NewInt(int64(held(base, tick))), uint(doublings))
	top := big.NewInt(int64(held(most, tick)))
	if d.Cmp(top) > 0 {
		return int(top.Int64())
	}
	return int(d.Int64())
}

// delay is the wait with jitter by the rule, in numbers that never run over.
func delay(base, most, attempt, jitter int) int {
	d := big.NewInt(int64(step(base, most, attempt)))
	less := new(big.Int).Div(d, big.NewInt(2))
	less.Mul(less, big.NewInt(int64(held(jitter, whole))))
	less.Div(less, big.NewInt(whole))
	return int(new(big.Int).Sub(d, less).Int64())
}

// lower is what the lower 32 bits of n times f tell, of 32 bits.
func lower(n, f int) *big.Int {
	bits := new(big.Int).Lsh(big.NewInt(1), 32)
	product := new(big.Int).Mul(big.NewInt(int64(n)), big.NewInt(int64(f)))
	return product.Mod(product, bits)
}

// jitter is the jitter by the rule, in numbers that never run over.
func jitter(node, seq, attempt int) int {
	h := lower(node, 2654435761)
	h.Xor(h, lower(seq, 40503))
	h.Xor(h, lower(attempt, 2246822519))
	h.Xor(h, new(big.Int).Rsh(h, 15))
	return int(h.Mod(h, big.NewInt(whole+1)).Int64())
}

// numbers are ordinary ones, the edges with their neighbours, and numbers out of range.
func numbers() []int {
	return []int{
		math.MinInt, math.MinInt + 1, math.MinInt + 64, -tick, -1 << 32, -1000, -64, -2, -1, 0, 1, 2, 3, 4, 5, 7, 10, 35, 49, 50, 51, 52, 63, 64, 65, 66,
		100, 499, 500, 501, 999, 1000, 1001, 1000000, 1<<31 - 1, 1 << 31, 1<<32 - 1, 1 << 32, 1<<32 + 1,
		tick/2 - 1, tick / 2, tick/2 + 1, tick - 1, tick, tick + 1, math.MaxInt - 64, math.MaxInt - 1, math.MaxInt,
	}
}

// number is a number at random, of whatever size.
func number(r *rand.Rand) int {
	return int(r.Uint64()) >> r.Intn(64)
}

// 18.1: the base, doubled once for each attempt but the first one.
func TestStepDoubles(t *testing.T) {
	want := 10
	for attempt := 1; attempt <= 40; attempt++ {
		expectStep(t, 10, tick, attempt, want)
		want *= 2
	}
	expectStep(t, 3, 1000, 2, 6)
	expectStep(t, 3, 1000, 3, 12)
	expectStep(t, 1, 1000, 10, 512)
	expectStep(t, 1000000, 1000000, 5, 1000000)
}

// 18.1: at the first attempt, and at one below 1, nothing is doubled.
func TestStepWithoutDoubling(t *testing.T) {
	for _, attempt := range []int{1, 0, -1, -2, -63, -64, -65, -tick, math.MinInt + 1, math.MinInt} {
		expectStep(t, 10, 35, attempt, 10)
		expectStep(t, 40, 35, attempt, 35)
		expectStep(t, 0, 35, attempt, 0)
		expectStep(t, tick, tick, attempt, tick)
	}
}

// 18.1: no wait is above the most, and one that is just as long stays.
func TestStepAtMost(t *testing.T) {
	expectStep(t, 10, 39, 3, 39)
	expectStep(t, 10, 40, 3, 40)
	expectStep(t, 10, 41, 3, 40)
	expectStep(t, 10, 40, 4, 40)
	expectStep(t, 10, 10, 1, 10)
	expectStep(t, 10, 9, 1, 9)
	expectStep(t, 10, 1, 5, 1)
	expectStep(t, 10, 0, 1, 0)
	expectStep(t, 10, 0, 1000, 0)
}

// 18.1: what is doubled never runs over, however many attempts there were.
func TestStepNeverRunsOver(t *testing.T) {
	expectStep(t, 1, tick, 50, 1<<49)
	expectStep(t, 1, tick, 51, tick)
	expectStep(t, 3, tick, 49, 3<<48)
	expectStep(t, 3, tick, 50, tick)
	expectStep(t, tick/2-1, tick, 2, tick-2)
	expectStep(t, tick/2, tick, 2, tick)
	expectStep(t, tick/2+1, tick, 2, tick)
	for _, attempt := range []int{52, 63, 64, 65, 66, 128, 1000, tick, math.MaxInt - 1, math.MaxInt} {
		expectStep(t, 1, tick, attempt, tick)
		expectStep(t, 1, tick-1, attempt, tick-1)
		expectStep(t, 7, 100, attempt, 100)
		expectStep(t, tick, tick, attempt, tick)
		expectStep(t, 0, tick, attempt, 0)
	}
}

// 18.1: base and most are what Clamp makes of them.
func TestStepOfTimesOutOfRange(t *testing.T) {
	for _, none := range []int{-1, -10, -tick, math.MinInt} {
		expectStep(t, none, 100, 1, 0)
		expectStep(t, none, 100, 9, 0)
		expectStep(t, 10, none, 1, 0)
		expectStep(t, none, none, 3, 0)
		expectDelay(t, none, 100, 9, 1000, 0)
		expectDelay(t, 10, none, 1, 1000, 0)
	}
	for _, far := range []int{tick + 1, 2 * tick, math.MaxInt - 1, math.MaxInt} {
		expectStep(t, far, far, 1, tick)
		expectStep(t, far, 100, 1, 100)
		expectStep(t, far, tick-1, 2, tick-1)
		expectStep(t, 1, far, 51, tick)
		expectStep(t, 1, far, 52, tick)
		expectStep(t, 10, far, 2, 20)
		expectDelay(t, far, far, 1, 0, tick)
		expectDelay(t, far, far, 1, 1000, tick/2)
	}
}

// 18.1: up to a half less, as the jitter goes.
func TestDelay(t *testing.T) {
	expectDelay(t, 100, 1000, 1, 0, 100)
	expectDelay(t, 100, 1000, 1, 500, 75)
	expectDelay(t, 100, 1000, 1, 1000, 50)
	expectDelay(t, 100, 1000, 3, 250, 350)
	expectDelay(t, 100, 1000, 9, 250, 875)
	expectDelay(t, 1000000, 1000000, 1, 1, 999500)
	expectDelay(t, 1000000, 1000000, 1, 999, 500500)
	expectDelay(t, tick, tick, 1, 1000, tick/2)
	expectDelay(t, tick, tick, 1, 999, tick-(tick/2/1000*999+tick/2%1000*999/1000))
}

// 18.1: the half is rounded down ahead of the jitter, and what goes off is rounded down behind it.
func TestDelayRounds(t *testing.T) {
	expectDelay(t, 1, 1000, 1, 1000, 1)
	expectDelay(t, 2, 1000, 1, 1000, 1)
	expectDelay(t, 3, 1000, 1, 1000, 2)
	expectDelay(t, 101, 1000, 1, 1000, 51)
	expectDelay(t, 2, 1000, 1, 999, 2)
	expectDelay(t, 100, 1000, 1, 1, 100)
	expectDelay(t, 100, 1000, 1, 19, 100)
	expectDelay(t, 100, 1000, 1, 20, 99)
	expectDelay(t, 100, 1000, 1, 39, 99)
	expectDelay(t, 100, 1000, 1, 40, 98)
	expectDelay(t, 3, 1000, 1, 700, 3)
	expectDelay(t, 101, 1000, 1, 999, 52)
	expectDelay(t, 5, 1000, 1, 500, 4)
	expectDelay(t, 0, 1000, 1, 1000, 0)
	expectDelay(t, tick-1, tick, 1, 1000, tick/2)
}

// 18.1: a jitter below 0 is 0, one above the whole is the whole.
func TestDelayOfJitterOutOfRange(t *testing.T) {
	for _, none := range []int{-1, -5, -1000, -tick, math.MinInt + 1, math.MinInt} {
		expectDelay(t, 100, 1000, 1, none, 100)
		expectDelay(t, tick, tick, 1, none, tick)
	}
	for _, all := range []int{1001, 9999, tick, tick + 1, math.MaxInt - 1, math.MaxInt} {
		expectDelay(t, 100, 1000, 1, all, 50)
		expectDelay(t, 101, 1000, 1, all, 51)
		expectDelay(t, tick, tick, 1, all, tick/2)
	}
}

// 18.1: MaxJitter is what the chapter says.
func TestMaxJitter(t *testing.T) {
	if backoff.MaxJitter != whole {
		t.Errorf("MaxJitter = %d", backoff.MaxJitter)
	}
}

// 18.1 and 18.3, of whatever numbers: Step and Delay are as the rule says, and a Delay is from a half of Step, rounded up, to Step.
func expectWaits(t *testing.T, base, most, attempt, jit int) {
	t.Helper()
	expectStep(t, base, most, attempt, step(base, most, attempt))
	expectDelay(t, base, most, attempt, jit, delay(base, most, attempt, jit))
	full, got := backoff.Step(base, most, attempt), backoff.Delay(base, most, attempt, jit)
	if got < full-full/2 || got > full {
		t.Errorf("Delay(%d, %d, %d, %d) = %d, where Step is %d", base, most, attempt, jit, got, full)
	}
}

// 18.1 and 18.3, at all edges together.
func TestWaitsAtEdges(t *testing.T) {
	for _, base := range numbers() {
		for _, most := range numbers() {
			for _, attempt := range []int{math.MinInt, -1, 0, 1, 2, 3, 50, 51, 64, 65, 66, math.MaxInt} {
				for _, jit := range []int{math.MinInt, -1, 0, 1, 500, 999, 1000, 1001, math.MaxInt} {
					expectWaits(t, base, most, attempt, jit)
				}
			}
		}
	}
	for _, attempt := range numbers() {
		for _, jit := range numbers() {
			expectWaits(t, 10, 35, attempt, jit)
			expectWaits(t, 1, tick, attempt, jit)
		}
	}
}

// 18.1 and 18.3, at random.
func TestWaitsAtRandom(t *testing.T) {
	r := rand.New(rand.NewSource(18))
	for range 20000 {
		expectWaits(t, number(r), number(r), r.Intn(80)-5, r.Intn(1100)-50)
		expectWaits(t, 1+r.Intn(1000000), 1+r.Intn(1000000), 1+r.Intn(5), r.Intn(1001))
		expectWaits(t, number(r), number(r), number(r), number(r))
	}
}

// 18.2: known ones, of ordinary numbers and of none.
func TestJitter(t *testing.T) {
	expectJitter(t, 0, 0, 0, 0)
	expectJitter(t, 1, 0, 0, 254)
	expectJitter(t, 0, 1, 0, 462)
	expectJitter(t, 0, 0, 1, 210)
	expectJitter(t, 1, 2, 3, 472)
	expectJitter(t, 3, 17, 2, 538)
	expectJitter(t, 64, 1, 5, 175)
}

// 18.2: from 0 to the whole, both of which there are.
func TestJitterReachesBothEnds(t *testing.T) {
	expectJitter(t, 1, 93, 1, 0)
	expectJitter(t, 0, 32, 3, 1000)
	expectJitter(t, 0, 45, 5, 999)
	expectJitter(t, 0, 133, 4, 1)
}

// 18.2: of each number the lower 32 bits count, of one below 0 too.
func TestJitterOfLowerBits(t *testing.T) {
	expectJitter(t, -1, 0, 0, 162)
	expectJitter(t, 0, -1, 0, 141)
	expectJitter(t, 0, 0, -1, 507)
	expectJitter(t, -1, -1, -1, 584)
	expectJitter(t, 1<<32, 1<<32, 1<<32, 0)
	expectJitter(t, 1<<32+1, 0, 0, 254)
	expectJitter(t, 0, 1<<32+1, 0, 462)
	expectJitter(t, 0, 0, 1<<32+1, 210)
	expectJitter(t, 1<<31, 0, 0, 781)
	expectJitter(t, 0, 1<<31, 0, 781)
	expectJitter(t, 0, 0, 1<<31, 781)
	expectJitter(t, 1<<31-1, 1<<31-1, 1<<31-1, 745)
	expectJitter(t, tick, tick-1, tick+1, 434)
	expectJitter(t, math.MinInt, math.MaxInt, math.MinInt+1, 434)
	expectJitter(t, math.MaxInt, math.MinInt, 5, 328)
}

// 18.2, of whatever numbers: a jitter is as the rule says, from 0 to the whole, and the same again.
func expectJitterByRule(t *testing.T, node, seq, attempt int) {
	t.Helper()
	want := jitter(node, seq, attempt)
	expectJitter(t, node, seq, attempt, want)
	expectJitter(t, node, seq, attempt, want)
	if want < 0 || want > whole {
		t.Errorf("Jitter(%d, %d, %d) is %d by the rule", node, seq, attempt, want)
	}
}

// 18.2, at all edges together.
func TestJitterAtEdges(t *testing.T) {
	for _, node := range numbers() {
		for _, seq := range numbers() {
			for _, attempt := range []int{math.MinInt, -1, 0, 1, 2, 5, 1 << 31, 1 << 32, math.MaxInt} {
				expectJitterByRule(t, node, seq, attempt)
			}
		}
	}
}

// 18.2, at random.
func TestJitterAtRandom(t *testing.T) {
	r := rand.New(rand.NewSource(182))
	for range 20000 {
		expectJitterByRule(t, number(r), number(r), number(r))
		expectJitterByRule(t, r.Intn(64), 1+r.Intn(1000), 1+r.Intn(5))
	}
}

// 18.3: who tries more often does not wait less without jitter.
func TestMoreAttemptsWaitNoLess(t *testing.T) {
	for _, base := range numbers() {
		for _, most := range numbers() {
			ahead := 0
			for attempt := -3; attempt <= 70; attempt++ {
				got := backoff.Step(base, most, attempt)
				if got < ahead {
					t.Errorf("Step(%d, %d, %d) = %d, with %d ahead of it", base, most, attempt, got, ahead)
				}
				if bare := backoff.Delay(base, most, attempt, 0); bare != got {
					t.Errorf("Delay(%d, %d, %d, 0) = %d, where Step is %d", base, most, attempt, bare, got)
				}
				ahead = got
			}
		}
	}
}

// 18.3: both ends of a Delay are reached: a half of Step, rounded up, and Step.
func TestDelayReachesBothEnds(t *testing.T) {
	for full := range 2000 {
		expectDelay(t, full, tick, 1, 0, full)
		expectDelay(t, full, tick, 1, whole, (full+1)/2)
	}
}

// The chapter's example.
func TestExample(t *testing.T) {
	expectStep(t, 10, 35, 3, 35)
	expectDelay(t, 10, 35, 3, 1000, 18)
}
