package throttle_test

import (
	"math"
	"math/big"
	"math/rand"
	"slices"
	"testing"

	"hourglass/throttle"
)

// What a token has, what is taken and brought, and the most of tokens are written out, so that a test tells when they are taken wrongly.
const (
	token = 1000
	cost  = 1000
	gain  = 100
	most  = 1000
)

func expectFull(t *testing.T, tokens, want int) {
	t.Helper()
	if got := throttle.Full(tokens); got != want {
		t.Errorf("Full(%d) = %d, not %d", tokens, got, want)
	}
}

func expectBad(t *testing.T, have, tokens, want int) {
	t.Helper()
	if got := throttle.Bad(have, tokens); got != want {
		t.Errorf("Bad(%d, %d) = %d, not %d", have, tokens, got, want)
	}
}

func expectGood(t *testing.T, have, tokens, want int) {
	t.Helper()
	if got := throttle.Good(have, tokens); got != want {
		t.Errorf("Good(%d, %d) = %d, not %d", have, tokens, got, want)
	}
}

func expectMay(t *testing.T, have, tokens int, want bool) {
	t.Helper()
	if got := throttle.May(have, tokens); got != want {
		t.Errorf("May(%d, %d) = %v, not %v", have, tokens, got, want)
	}
}

func expectPlays(t *testing.T, tokens int, good []bool, want int) {
	t.Helper()
	if got := throttle.Plays(tokens, good); got != want {
		t.Errorf("Plays(%d, %v) = %d, not %d", tokens, good, got, want)
	}
}

// held is the nearest number to n that is from least to greatest, in numbers that never run over.
func held(n, least, greatest *big.Int) *big.Int {
	switch {
	case n.Cmp(least) < 0:
		return least
	case n.Cmp(greatest) > 0:
		return greatest
	}
	return n
}

// full is as much as there may be, by the rule.
func full(tokens int) *big.Int {
	n := held(big.NewInt(int64(tokens)), big.NewInt(1), big.NewInt(most))
	return new(big.Int).Mul(n, big.NewInt(token))
}

// there is what there is, by the rule, when so much more, or less, of it is there.
func there(have *big.Int, more, tokens int) *big.Int {
	now := held(have, big.NewInt(0), full(tokens))
	now = new(big.Int).Add(now, big.NewInt(int64(more)))
	return held(now, big.NewInt(0), full(tokens))
}

// may is whether there is more than a half, by the rule.
func may(have, tokens int) bool {
	twice := new(big.Int).Lsh(there(big.NewInt(int64(have)), 0, tokens), 1)
	return twice.Cmp(full(tokens)) > 0
}

// plays is what there is behind failures and successes, by the rule.
func plays(tokens int, good []bool) int {
	have := full(tokens)
	for _, g := range good {
		more := -cost
		if g {
			more = gain
		}
		have = there(have, more, tokens)
	}
	return int(have.Int64())
}

// counts are ordinary numbers of tokens, the edges with their neighbours, and numbers out of range.
func counts() []int {
	return []int{
		math.MinInt, math.MinInt + 1, -1 << 32, -1001, -1000, -2, -1, 0, 1, 2, 3, 4, 5, 7, 10, 11, 99, 100, 499, 500, 501, 998, 999,
		1000, 1001, 2000, 1 << 31, 1 << 32, 1<<32 + 5, math.MaxInt / 1000, math.MaxInt/1000 + 1, math.MaxInt - 1, math.MaxInt,
	}
}

// amounts are what there may be of so many tokens, with all the edges, and what may not be.
func amounts(tokens int) []int {
	top := int(full(tokens).Int64())
	list := []int{math.MinInt, math.MinInt + 1, math.MinInt + 999, math.MinInt + 1000, math.MinInt + 1001, math.MinInt / 2, -1 << 32}
	for _, edge := range []int{-1000, -100, 0, 100, 900, 1000, 1100, top / 2, top - 1000, top - 100, top, top + 100, top + 1000} {
		list = append(list, edge-1, edge, edge+1)
	}
	return append(list, 1<<32, 1<<32+5, math.MaxInt/2, math.MaxInt/2+1, math.MaxInt-1000, math.MaxInt-100, math.MaxInt-1, math.MaxInt)
}

// number is a number at random, of whatever size.
func number(r *rand.Rand) int {
	return int(r.Uint64()) >> r.Intn(64)
}

// same is n times the same.
func same(n int, good bool) []bool {
	return slices.Repeat([]bool{good}, n)
}

// 19.1: the constants are what the chapter says.
func TestConstants(t *testing.T) {
	if throttle.Token != token || throttle.Cost != cost || throttle.Gain != gain {
		t.Errorf("%d, %d, %d", throttle.Token, throttle.Cost, throttle.Gain)
	}
}

// 19.1: Full is tokens times 1000.
func TestFull(t *testing.T) {
	for tokens := 1; tokens <= most; tokens++ {
		expectFull(t, tokens, tokens*1000)
	}
	expectFull(t, 1, 1000)
	expectFull(t, 10, 10000)
	expectFull(t, 1000, 1000000)
}

// 19.1: tokens below 1 stand for 1, those above 1000 for 1000.
func TestFullOutOfRange(t *testing.T) {
	for _, few := range []int{0, -1, -2, -1000, -1 << 32, math.MinInt + 1, math.MinInt} {
		expectFull(t, few, 1000)
	}
	for _, many := range []int{1001, 2000, 1 << 31, 1 << 32, 1<<32 + 5, math.MaxInt / 1000, math.MaxInt/1000 + 1, math.MaxInt} {
		expectFull(t, many, 1000000)
	}
}

// 19.1: a failure takes 1000, as far as there are as many.
func TestBad(t *testing.T) {
	expectBad(t, 10000, 10, 9000)
	expectBad(t, 9999, 10, 8999)
	expectBad(t, 5050, 10, 4050)
	expectBad(t, 2000, 10, 1000)
	expectBad(t, 1100, 10, 100)
	expectBad(t, 1001, 10, 1)
	expectBad(t, 1000, 10, 0)
	expectBad(t, 999, 10, 0)
	expectBad(t, 1, 10, 0)
	expectBad(t, 0, 10, 0)
	expectBad(t, 1000, 1, 0)
	expectBad(t, 1000000, 1000, 999000)
}

// 19.1: a success brings 100, as far as there is room.
func TestGood(t *testing.T) {
	expectGood(t, 0, 10, 100)
	expectGood(t, 1, 10, 101)
	expectGood(t, 5050, 10, 5150)
	expectGood(t, 9800, 10, 9900)
	expectGood(t, 9899, 10, 9999)
	expectGood(t, 9900, 10, 10000)
	expectGood(t, 9901, 10, 10000)
	expectGood(t, 9999, 10, 10000)
	expectGood(t, 10000, 10, 10000)
	expectGood(t, 0, 1, 100)
	expectGood(t, 950, 1, 1000)
	expectGood(t, 999950, 1000, 1000000)
}

// 19.1: what there is is held to what may be ahead of a failure or a success, not behind it alone.
func TestHaveOutOfRange(t *testing.T) {
	for _, none := range []int{-1, -99, -100, -101, -1000, -1 << 32, math.MinInt + 1000, math.MinInt + 999, math.MinInt + 1, math.MinInt} {
		expectBad(t, none, 10, 0)
		expectGood(t, none, 10, 100)
		expectMay(t, none, 10, false)
		expectMay(t, none, 1, false)
	}
	for _, much := range []int{10001, 10500, 11000, 11001, 20000, 1 << 32, math.MaxInt/2 + 1, math.MaxInt - 100, math.MaxInt - 99, math.MaxInt} {
		expectBad(t, much, 10, 9000)
		expectGood(t, much, 10, 10000)
		expectMay(t, much, 10, true)
		expectMay(t, much, 1, true)
	}
}

// 19.1: tokens out of range stand for the nearest in each call.
func TestTokensOutOfRange(t *testing.T) {
	for _, few := range []int{0, -1, -1000, math.MinInt} {
		expectBad(t, 5000, few, 0)
		expectGood(t, 950, few, 1000)
		expectGood(t, 850, few, 950)
		expectMay(t, 500, few, false)
		expectMay(t, 501, few, true)
		expectPlays(t, few, nil, 1000)
		expectPlays(t, few, []bool{false, true}, 100)
	}
	for _, many := range []int{1001, 5000, 1 << 32, math.MaxInt} {
		expectBad(t, 5000000, many, 999000)
		expectGood(t, 999950, many, 1000000)
		expectMay(t, 500000, many, false)
		expectMay(t, 500001, many, true)
		expectPlays(t, many, nil, 1000000)
		expectPlays(t, many, []bool{false, true}, 999100)
	}
}

// 19.1: more than a half, of even and of odd numbers of tokens; the half alone is too little.
func TestMay(t *testing.T) {
	for tokens := 1; tokens <= most; tokens++ {
		half := tokens * 500
		expectMay(t, half-1, tokens, false)
		expectMay(t, half, tokens, false)
		expectMay(t, half+1, tokens, true)
		expectMay(t, 0, tokens, false)
		expectMay(t, tokens*1000, tokens, true)
	}
}

// 19.1: from Full on, one behind the other.
func TestPlays(t *testing.T) {
	expectPlays(t, 10, nil, 10000)
	expectPlays(t, 10, []bool{}, 10000)
	expectPlays(t, 10, []bool{true}, 10000)
	expectPlays(t, 10, []bool{false}, 9000)
	expectPlays(t, 10, []bool{true, false}, 9000)
	expectPlays(t, 10, []bool{false, true}, 9100)
	expectPlays(t, 10, []bool{false, true, false, false, true}, 7200)
	expectPlays(t, 10, append(same(1, false), same(10, true)...), 10000)
	expectPlays(t, 10, append(same(1, false), same(11, true)...), 10000)
	expectPlays(t, 10, append(same(1, false), same(9, true)...), 9900)
	expectPlays(t, 1, []bool{false, false, true}, 100)
	expectPlays(t, 1, []bool{false, true, true, false, true}, 100)
	expectPlays(t, 3, append(same(4, false), true, true), 200)
	expectPlays(t, 1000, same(1000, false), 0)
	expectPlays(t, 1000, same(999, false), 1000)
}

// 19.1: many results, behind which there is neither less than none nor more than all.
func TestPlaysMany(t *testing.T) {
	for _, tokens := range counts() {
		top := int(full(tokens).Int64())
		expectPlays(t, tokens, same(100000, true), top)
		expectPlays(t, tokens, same(100000, false), 0)
		expectPlays(t, tokens, append(same(5000, false), same(10000, true)...), top)
		expectPlays(t, tokens, append(same(5000, false), same(7, true)...), 700)
		expectPlays(t, tokens, append(same(5000, true), false), top-1000)
	}
}

// 19.1: what is handed in stays, and what lies behind its length does not count.
func TestPlaysLeavesTheList(t *testing.T) {
	whole := []bool{false, true, false, false, true, false}
	ahead := slices.Clone(whole)
	expectPlays(t, 5, whole[1:3], 4000)
	expectPlays(t, 5, whole[:0], 5000)
	expectPlays(t, 5, whole, 1200)
	if !slices.Equal(whole, ahead) {
		t.Errorf("%v became %v", ahead, whole)
	}
}

// 19.1, of all lists of up to ten results: Plays is as the rule says, and as Good and Bad tell it one by one.
func TestPlaysOfAllShortLists(t *testing.T) {
	for _, tokens := range []int{0, 1, 2, 3, 5, 10, 1000} {
		for length := range 11 {
			for bits := range 1 << length {
				good := make([]bool, length)
				for i := range good {
					good[i] = bits>>i&1 == 1
				}
				expectPlays(t, tokens, good, plays(tokens, good))
				expectPlays(t, tokens, good, oneByOne(tokens, good))
			}
		}
	}
}

// oneByOne is what there is, as Full, Good and Bad tell it.
func oneByOne(tokens int, good []bool) int {
	have := throttle.Full(tokens)
	for _, g := range good {
		if g {
			have = throttle.Good(have, tokens)
		} else {
			have = throttle.Bad(have, tokens)
		}
	}
	return have
}

// 19.1, at random.
func TestPlaysAtRandom(t *testing.T) {
	r := rand.New(rand.NewSource(19))
	for range 2000 {
		good := make([]bool, r.Intn(200))
		often := 1 + r.Intn(20)
		for i := range good {
			good[i] = r.Intn(often) > 0
		}
		tokens := 1 + r.Intn(20)
		expectPlays(t, tokens, good, plays(tokens, good))
	}
}

// 19.1, of whatever numbers: each call is as the rule says, and the same again.
func expectByRule(t *testing.T, have, tokens int) {
	t.Helper()
	b := big.NewInt(int64(have))
	for range 2 {
		expectFull(t, tokens, int(full(tokens).Int64()))
		expectBad(t, have, tokens, int(there(b, -cost, tokens).Int64()))
		expectGood(t, have, tokens, int(there(b, gain, tokens).Int64()))
		expectMay(t, have, tokens, may(have, tokens))
	}
}

// 19.1, at all edges together.
func TestEdges(t *testing.T) {
	for _, tokens := range counts() {
		for _, have := range amounts(tokens) {
			expectByRule(t, have, tokens)
		}
	}
}

// 19.1, at random.
func TestAtRandom(t *testing.T) {
	r := rand.New(rand.NewSource(191))
	for range 20000 {
		expectByRule(t, number(r), number(r))
		expectByRule(t, number(r), 1+r.Intn(most))
		tokens := 1 + r.Intn(most)
		expectByRule(t, r.Intn(tokens*token+1), tokens)
	}
}

// 19.2: of t tokens, when all fail, it may be tried again behind less than the half of t failures, and not from the half on.
func TestAllFail(t *testing.T) {
	for tokens := 1; tokens <= most; tokens++ {
		have := throttle.Full(tokens)
		for failures := range tokens + 3 {
			expectMay(t, have, tokens, 2*failures < tokens)
			if tokens <= 50 {
				expectPlays(t, tokens, same(failures, false), have)
			}
			have = throttle.Bad(have, tokens)
		}
		if have != 0 {
			t.Errorf("of %d tokens, %d are left", tokens, have)
		}
	}
}

// 19.2: a failure never helps, a success never hurts, and who has more is not worse off.
func TestFailuresNeverHelp(t *testing.T) {
	for _, tokens := range counts() {
		list := amounts(tokens)
		slices.Sort(list)
		for i, have := range list {
			expectOrder(t, have, tokens)
			if i > 0 {
				expectMoreNoWorse(t, list[i-1], have, tokens)
			}
		}
	}
	for _, tokens := range []int{1, 2, 3} {
		for have := -5; have <= tokens*token+5; have++ {
			expectOrder(t, have, tokens)
			expectMoreNoWorse(t, have-1, have, tokens)
		}
	}
}

// expectOrder expects that neither a failure helps nor a success hurts, as far as May goes, and that both answers may be.
func expectOrder(t *testing.T, have, tokens int) {
	t.Helper()
	bad, good := throttle.Bad(have, tokens), throttle.Good(have, tokens)
	if bad < 0 || bad > good || good > throttle.Full(tokens) {
		t.Errorf("of %d and %d: Bad %d, Good %d", have, tokens, bad, good)
	}
	may := throttle.May(have, tokens)
	if !may && throttle.May(bad, tokens) {
		t.Errorf("of %d and %d: a failure helped", have, tokens)
	}
	if may && !throttle.May(good, tokens) {
		t.Errorf("of %d and %d: a success hurt", have, tokens)
	}
}

// expectMoreNoWorse expects that who has more has no less behind a failure or a success, and may what the other one may.
func expectMoreNoWorse(t *testing.T, less, more, tokens int) {
	t.Helper()
	if throttle.Bad(less, tokens) > throttle.Bad(more, tokens) || throttle.Good(less, tokens) > throttle.Good(more, tokens) {
		t.Errorf("of %d tokens, %d is better than %d", tokens, less, more)
	}
	if throttle.May(less, tokens) && !throttle.May(more, tokens) {
		t.Errorf("of %d tokens, one may with %d, and not with %d", tokens, less, more)
	}
}

// 19.2, of lists: a failure that is put in anywhere never helps, a success never hurts.
func TestResultPutIn(t *testing.T) {
	r := rand.New(rand.NewSource(192))
	for range 3000 {
		tokens := 1 + r.Intn(8)
		good := make([]bool, r.Intn(30))
		for i := range good {
			good[i] = r.Intn(3) > 0
		}
		at := r.Intn(len(good) + 1)
		have := throttle.Plays(tokens, good)
		worse := throttle.Plays(tokens, slices.Insert(slices.Clone(good), at, false))
		better := throttle.Plays(tokens, slices.Insert(slices.Clone(good), at, true))
		if worse > have || better < have {
			t.Errorf("of %d tokens, behind %v there is %d; with a failure at %d there is %d, with a success %d", tokens, good, have, at, worse, better)
		}
	}
}

// The chapter's example.
func TestExample(t *testing.T) {
	expectMay(t, throttle.Plays(10, same(4, false)), 10, true)
	expectMay(t, throttle.Plays(10, same(5, false)), 10, false)
	expectMay(t, throttle.Plays(10, append(same(5, false), true)), 10, true)
}
