package ticks_test

import (
	"math"
	"math/big"
	"testing"

	"hourglass/api"
	"hourglass/ticks"
)

// numbers are ordinary ones, the edges that the chapter names with their neighbours, and numbers out of range.
func numbers() []int {
	return []int{
		math.MinInt, math.MinInt + 1, -api.MaxTick - 1, -api.MaxTick, -7, -1,
		0, 1, 2, 3, 5, 7, 10, 63, 64, 1000, 999983, 1 << 25, 1<<25 + 1, 1 << 30,
		api.MaxTick / 3, api.MaxTick/2 - 1, api.MaxTick / 2, api.MaxTick/2 + 1,
		api.MaxTick - 1000, api.MaxTick - 1, api.MaxTick, api.MaxTick + 1, api.MaxTick + 1000,
		2 * api.MaxTick, 1 << 62, math.MaxInt - 1, math.MaxInt,
	}
}

// times are the numbers that stand for themselves.
func times() []int {
	var l []int
	for _, n := range numbers() {
		if n >= 0 && n <= api.MaxTick {
			l = append(l, n)
		}
	}
	return l
}

// The models work with numbers of any length, so that nothing in them can run over.

func inRange(n *big.Int) *big.Int {
	greatest := big.NewInt(api.MaxTick)
	switch {
	case n.Sign() < 0:
		return new(big.Int)
	case n.Cmp(greatest) > 0:
		return greatest
	}
	return n
}

func whole(n int) *big.Int { return inRange(big.NewInt(int64(n))) }

func small(n *big.Int) int { return int(inRange(n).Int64()) }

func modelUp(t, grain int) int {
	time, step := whole(t), whole(grain)
	if step.Sign() == 0 {
		step = big.NewInt(1)
	}
	count, left := new(big.Int).QuoRem(time, step, new(big.Int))
	if left.Sign() != 0 {
		count.Add(count, big.NewInt(1))
	}
	return small(count.Mul(count, step))
}

func TestClamp(t *testing.T) {
	for _, c := range []struct{ n, want int }{
		{math.MinInt, 0}, {-api.MaxTick, 0}, {-1, 0}, {0, 0}, {1, 1}, {5, 5}, {1 << 49, 1 << 49},
		{api.MaxTick - 1, api.MaxTick - 1}, {api.MaxTick, 1 << 50}, {api.MaxTick + 1, 1 << 50}, {math.MaxInt, 1 << 50},
	} {
		if got := ticks.Clamp(c.n); got != c.want {
			t.Errorf("Clamp(%d) = %d, not %d", c.n, got, c.want)
		}
	}
}

func TestWrittenOut(t *testing.T) {
	const most = api.MaxTick
	for _, c := range []struct {
		call      string
		of        func(int, int) int
		a, b, out int
	}{
		{"Add", ticks.Add, 3, 4, 7},
		{"Add", ticks.Add, 0, 0, 0},
		{"Add", ticks.Add, -5, 2, 2},
		{"Add", ticks.Add, 2, math.MinInt, 2},
		{"Add", ticks.Add, most - 1, 1, most},
		{"Add", ticks.Add, most, 1, most},
		{"Add", ticks.Add, math.MaxInt, math.MaxInt, most},
		{"Add", ticks.Add, math.MaxInt, math.MinInt, most},
		{"Sub", ticks.Sub, 9, 4, 5},
		{"Sub", ticks.Sub, 4, 4, 0},
		{"Sub", ticks.Sub, 3, 4, 0},
		{"Sub", ticks.Sub, 5, -1, 5},
		{"Sub", ticks.Sub, 5, math.MinInt, 5},
		{"Sub", ticks.Sub, -1, -9, 0},
		{"Sub", ticks.Sub, math.MaxInt, 1, most - 1},
		{"Sub", ticks.Sub, math.MaxInt, most, 0},
		{"Sub", ticks.Sub, math.MinInt, math.MaxInt, 0},
		{"Mul", ticks.Mul, 6, 7, 42},
		{"Mul", ticks.Mul, 0, math.MaxInt, 0},
		{"Mul", ticks.Mul, math.MaxInt, 0, 0},
		{"Mul", ticks.Mul, 1, math.MaxInt, most},
		{"Mul", ticks.Mul, -6, -7, 0},
		{"Mul", ticks.Mul, -6, 7, 0},
		{"Mul", ticks.Mul, 1 << 25, 1 << 25, most},
		{"Mul", ticks.Mul, 1 << 25, 1<<25 - 1, most - 1<<25},
		{"Mul", ticks.Mul, 1<<25 + 1, 1 << 25, most},
		{"Mul", ticks.Mul, 1 << 32, 1 << 32, most},
		{"Mul", ticks.Mul, 3, most / 3, most / 3 * 3},
		{"Mul", ticks.Mul, 3, most/3 + 1, most},
		{"Mul", ticks.Mul, math.MaxInt, math.MaxInt, most},
		{"Up", ticks.Up, 7, 5, 10},
		{"Up", ticks.Up, 10, 5, 10},
		{"Up", ticks.Up, 11, 5, 15},
		{"Up", ticks.Up, 0, 5, 0},
		{"Up", ticks.Up, -3, 5, 0},
		{"Up", ticks.Up, 7, 1, 7},
		{"Up", ticks.Up, 7, 0, 7},
		{"Up", ticks.Up, 7, -2, 7},
		{"Up", ticks.Up, 7, math.MinInt, 7},
		{"Up", ticks.Up, 0, 0, 0},
		{"Up", ticks.Up, most, 1, most},
		{"Up", ticks.Up, most, 0, most},
		{"Up", ticks.Up, most - 1, 1000, most},
		{"Up", ticks.Up, most - 1, 2, most},
		{"Up", ticks.Up, 1, math.MaxInt, most},
		{"Up", ticks.Up, 0, math.MaxInt, 0},
		{"Up", ticks.Up, math.MaxInt, math.MaxInt, most},
		{"Up", ticks.Up, math.MinInt, math.MinInt, 0},
	} {
		if got := c.of(c.a, c.b); got != c.out {
			t.Errorf("%s(%d, %d) = %d, not %d", c.call, c.a, c.b, got, c.out)
		}
	}
}

func TestPast(t *testing.T) {
	for _, c := range []struct {
		now, at, grain int
		want           bool
	}{
		{15, 11, 5, true}, {14, 11, 5, false}, {16, 11, 5, true}, {10, 10, 5, true}, {9, 10, 5, false},
		{0, 0, 5, true}, {0, -4, 9, true}, {-4, 0, 9, true}, {math.MinInt, math.MinInt, 9, true}, {-1, 1, 1, false},
		{7, 7, 0, true}, {6, 7, 0, false}, {7, 7, -5, true}, {6, 7, math.MinInt, false},
		{api.MaxTick - 1, api.MaxTick - 1, 1000, false}, {api.MaxTick, api.MaxTick - 1, 1000, true},
		{api.MaxTick, math.MaxInt, 1, true}, {math.MaxInt, math.MaxInt, math.MaxInt, true},
		{api.MaxTick - 1, 1, math.MaxInt, false}, {api.MaxTick, 1, math.MaxInt, true},
	} {
		if got := ticks.Past(c.now, c.at, c.grain); got != c.want {
			t.Errorf("Past(%d, %d, %d) = %t", c.now, c.at, c.grain, got)
		}
	}
}

func TestAsTheModels(t *testing.T) {
	for _, a := range numbers() {
		for _, b := range numbers() {
			x, y := whole(a), whole(b)
			if got, want := ticks.Add(a, b), small(new(big.Int).Add(x, y)); got != want {
				t.Errorf("Add(%d, %d) = %d, not %d", a, b, got, want)
			}
			if got, want := ticks.Sub(a, b), small(new(big.Int).Sub(x, y)); got != want {
				t.Errorf("Sub(%d, %d) = %d, not %d", a, b, got, want)
			}
			if got, want := ticks.Mul(a, b), small(new(big.Int).Mul(x, y)); got != want {
				t.Errorf("Mul(%d, %d) = %d, not %d", a, b, got, want)
			}
			if got, want := ticks.Up(a, b), modelUp(a, b); got != want {
				t.Errorf("Up(%d, %d) = %d, not %d", a, b, got, want)
			}
			for _, grain := range numbers() {
				if got, want := ticks.Past(a, b, grain), small(x) >= modelUp(b, grain); got != want {
					t.Errorf("Past(%d, %d, %d) = %t", a, b, grain, got)
				}
			}
		}
	}
}

func TestAddInAnyOrder(t *testing.T) {
	for _, a := range numbers() {
		for _, b := range numbers() {
			if ticks.Add(a, b) != ticks.Add(b, a) {
				t.Errorf("Add of %d and %d is another one the other way round", a, b)
			}
			for _, c := range numbers() {
				if ticks.Add(ticks.Add(a, b), c) != ticks.Add(a, ticks.Add(b, c)) {
					t.Errorf("Add of %d, %d and %d is another one in other brackets", a, b, c)
				}
			}
		}
	}
}

func TestLongerIsNotEarlier(t *testing.T) {
	for _, start := range numbers() {
		for _, longer := range numbers() {
			for _, wait := range numbers() {
				if wait <= longer && ticks.Add(start, wait) > ticks.Add(start, longer) {
					t.Errorf("from %d on, %d ends behind %d", start, wait, longer)
				}
			}
		}
	}
}

func TestPastStaysSo(t *testing.T) {
	for _, at := range numbers() {
		for _, grain := range numbers() {
			for _, now := range numbers() {
				for _, later := range numbers() {
					if later >= now && ticks.Past(now, at, grain) && !ticks.Past(later, at, grain) {
						t.Errorf("%d by %d is past at %d, not at %d", at, grain, now, later)
					}
				}
			}
		}
	}
}

func TestPastIsLessThanAGrainLater(t *testing.T) {
	for _, at := range times() {
		for _, grain := range times() {
			for _, now := range numbers() {
				if ticks.Past(now, at, grain) && ticks.Clamp(now) < at {
					t.Errorf("%d by %d is past at %d already", at, grain, now)
				}
			}
			latest := min(at+max(grain, 1)-1, api.MaxTick)
			if !ticks.Past(latest, at, grain) {
				t.Errorf("%d by %d is not past at %d", at, grain, latest)
			}
		}
	}
}

func TestSmallNumbersOneByOne(t *testing.T) {
	for at := range 130 {
		for grain := 1; grain < 70; grain++ {
			up := at
			for up%grain != 0 {
				up++
			}
			if got := ticks.Up(at, grain); got != up {
				t.Errorf("Up(%d, %d) = %d, not %d", at, grain, got, up)
			}
			if ticks.Past(up-1, at, grain) != (up == 0) || !ticks.Past(up, at, grain) {
				t.Errorf("%d by %d is not past from %d on", at, grain, up)
			}
		}
	}
}
