package slot_test

import (
	"math"
	"testing"

	"hourglass/api"
	"hourglass/slot"
)

// The limits, written out.
const (
	most   = 1125899906842624
	levels = 4
	slots  = 64
	wheel  = 16777216
)

// lengths are the spans of a slot of each level, and of the whole wheel.
var lengths = [levels + 1]int{1, 64, 4096, 262144, wheel}

// wrongLevels and wrongSlots are numbers of levels and slots that a wheel has not.
var (
	far         = []int{-1, -2, -63, -64, math.MinInt32, math.MinInt, math.MinInt + 1, 1 << 32, 1 << 58, 1 << 61, 1<<62 + 1, math.MaxInt - 1, math.MaxInt}
	wrongLevels = append([]int{4, 5, 6, 8, 10, 11, 63, 64}, far...)
	wrongSlots  = append([]int{64, 65, 127, 128, 4096}, far...)
)

// times are ordinary ones, those around each slot's beginning of each level, and numbers that stand for others.
func times() []int {
	l := []int{math.MinInt, math.MinInt + 1, -wheel, -4096, -64, -1, 5, 7, 70, 100, 1000, 123456, 987654321, 0x2AAAAAAAAAAAA, 0x1555555555555, 0x23456789ABCDE,
		most + 64, most + wheel, 2 * most, 1 << 62, math.MaxInt - 1, math.MaxInt}
	for _, length := range lengths {
		for _, n := range []int{0, 1, 2, 31, 63} {
			for _, more := range []int{0, 3*wheel + 5*4096} {
				l = append(l, more+n*length-1, more+n*length, more+n*length+1)
			}
		}
	}
	for _, edge := range []int{wheel, 2 * wheel, 64 * wheel, most / 2, most - wheel, most} {
		l = append(l, edge-1, edge, edge+1)
	}
	return l
}

func clamped(n int) int {
	if n < 0 {
		return 0
	}
	if n > most {
		return most
	}
	return n
}

// The models divide, and know nothing of bits.

func modelPart(t, level int) int {
	return clamped(t) / lengths[level] % slots
}

func modelPlace(now, t int) (int, int) {
	now, t = clamped(now), clamped(t)
	if t <= now {
		return 0, now % slots
	}
	for level := 0; level < levels; level++ {
		if now/lengths[level+1] == t/lengths[level+1] {
			return level, t / lengths[level] % slots
		}
	}
	return levels, 0
}

func modelStart(now, level, n int) int {
	return clamped(now)/lengths[level+1]*lengths[level+1] + n*lengths[level]
}

func TestConstants(t *testing.T) {
	if slot.Levels != levels || slot.Slots != slots || slot.Bits != 6 || api.MaxTick != most {
		t.Error(slot.Levels, slot.Slots, slot.Bits, api.MaxTick)
	}
}

// 9.1: parts, written out.
func TestPart(t *testing.T) {
	const parts = 1<<18 + 2<<12 + 3<<6 + 4
	for _, c := range []struct{ t, level, want int }{
		{0, 0, 0}, {5, 0, 5}, {63, 0, 63}, {64, 0, 0}, {65, 0, 1}, {70, 0, 6}, {70, 1, 1}, {63, 1, 0}, {4095, 1, 63}, {4096, 1, 0}, {4226, 1, 2}, {4226, 0, 2},
		{4095, 2, 0}, {4096, 2, 1}, {262143, 2, 63}, {262144, 2, 0}, {262143, 3, 0}, {262144, 3, 1}, {wheel - 1, 3, 63}, {wheel, 3, 0}, {wheel + 262144, 3, 1},
		{parts, 0, 4}, {parts, 1, 3}, {parts, 2, 2}, {parts, 3, 1}, {9*wheel + parts, 3, 1}, {9*wheel + parts, 0, 4},
		{most - 1, 0, 63}, {most - 1, 1, 63}, {most - 1, 2, 63}, {most - 1, 3, 63}, {most, 0, 0}, {most, 3, 0}, {most + 5, 0, 0}, {most - 5, 0, 59},
		{-1, 0, 0}, {-1, 3, 0}, {-5, 1, 0}, {math.MinInt, 0, 0}, {math.MinInt + 9, 0, 0}, {math.MaxInt, 0, 0}, {math.MaxInt, 2, 0},
	} {
		if got := slot.Part(c.t, c.level); got != c.want {
			t.Errorf("Part(%d, %d) = %d, not %d", c.t, c.level, got, c.want)
		}
	}
}

// 9.1: parts of levels that are not there.
func TestPartOfNoLevel(t *testing.T) {
	for _, at := range append(times(), most-1) {
		for _, level := range wrongLevels {
			if got := slot.Part(at, level); got != 0 {
				t.Fatalf("Part(%d, %d) = %d, not 0", at, level, got)
			}
		}
	}
}

// 9.1: places, written out.
func TestPlace(t *testing.T) {
	for _, c := range []struct{ now, t, level, slot int }{
		{5, 7, 0, 7}, {5, 70, 1, 1},
		// What is past stands where now is.
		{0, 0, 0, 0}, {63, 63, 0, 63}, {64, 63, 0, 0}, {100, 50, 0, 36}, {100, 99, 0, 36}, {100, 0, 0, 36}, {100, -1, 0, 36}, {100, math.MinInt, 0, 36},
		{wheel + 5, 3, 0, 5}, {most, 0, 0, 0}, {most - 1, 0, 0, 63}, {most, most, 0, 0},
		// The bounds of levels.
		{0, 1, 0, 1}, {0, 63, 0, 63}, {0, 64, 1, 1}, {62, 63, 0, 63}, {63, 64, 1, 1}, {64, 65, 0, 1}, {64, 127, 0, 63}, {64, 128, 1, 2},
		{0, 4095, 1, 63}, {0, 4096, 2, 1}, {4095, 4096, 2, 1}, {4096, 4160, 1, 1}, {0, 262143, 2, 63}, {0, 262144, 3, 1}, {5, 262144, 3, 1}, {262143, 262144, 3, 1},
		{262144, 266240, 2, 1}, {262144, 262144 + 63*64, 1, 63}, {0, 63 * 262144, 3, 63}, {0, wheel - 1, 3, 63},
		// How far it is tells nothing: what is near may stand at a high level.
		{4095, 4097, 2, 1}, {4032, 4095, 0, 63}, {1, 4095, 1, 63}, {262140, 262150, 3, 1},
		// Behind the turn of all levels.
		{0, wheel, 4, 0}, {wheel - 1, wheel, 4, 0}, {0, wheel + 7, 4, 0}, {wheel - 1, 2*wheel - 1, 4, 0}, {5, most, 4, 0}, {0, most - 1, 4, 0}, {most - 1, most, 4, 0},
		{wheel, 2*wheel - 1, 3, 63}, {most - wheel, most - 1, 3, 63}, {most - 2, most - 1, 0, 63}, {most - 64, most - 1, 0, 63}, {most - 65, most - 1, 1, 63},
		// What stands for others.
		{-1, 0, 0, 0}, {0, -1, 0, 0}, {-100, -50, 0, 0}, {-64, 64, 1, 1}, {math.MinInt, 3, 0, 3}, {math.MinInt, math.MaxInt, 4, 0}, {math.MinInt, math.MinInt, 0, 0},
		{most, most + 1, 0, 0}, {most + 1, most + 7, 0, 0}, {math.MaxInt, math.MaxInt, 0, 0}, {most - 1, math.MaxInt, 4, 0}, {math.MaxInt, 5, 0, 0}, {most + 9, most, 0, 0},
	} {
		if level, n := slot.Place(c.now, c.t); level != c.level || n != c.slot {
			t.Errorf("Place(%d, %d) = %d, %d, not %d, %d", c.now, c.t, level, n, c.level, c.slot)
		}
	}
}

// 9.2: starts, written out.
func TestStart(t *testing.T) {
	for _, c := range []struct{ now, level, slot, want int }{
		{70, 1, 5, 320}, {70, 0, 5, 69}, {70, 0, 6, 70}, {70, 0, 0, 64}, {70, 0, 63, 127}, {70, 1, 0, 0}, {70, 1, 63, 4032}, {70, 2, 1, 4096}, {70, 3, 1, 262144},
		{0, 0, 0, 0}, {0, 3, 63, wheel - 262144}, {63, 0, 63, 63}, {64, 0, 63, 127}, {4095, 1, 1, 64}, {4096, 1, 1, 4160}, {262143, 2, 2, 8192}, {262144, 2, 2, 270336},
		{wheel - 1, 3, 3, 786432}, {wheel, 3, 3, wheel + 786432}, {wheel + 70, 2, 0, wheel}, {3*wheel + 4096, 0, 9, 3*wheel + 4105},
		{most - 1, 0, 63, most - 1}, {most - 1, 0, 0, most - 64}, {most - 1, 3, 0, most - wheel},
		// What is told is not cut.
		{most, 0, 0, most}, {most, 0, 1, most + 1}, {most, 0, 63, most + 63}, {most, 1, 63, most + 4032}, {most, 2, 1, most + 4096}, {most, 3, 63, most + wheel - 262144},
		// What is handed in is cut.
		{math.MaxInt, 0, 1, most + 1}, {math.MaxInt, 3, 0, most}, {most + 70, 0, 5, most + 5}, {most + 70, 1, 1, most + 64},
		{-1, 0, 5, 5}, {-1, 3, 1, 262144}, {-70, 1, 0, 0}, {math.MinInt, 2, 3, 12288}, {math.MinInt, 0, 0, 0},
		// No such level, or no such slot.
		{70, 4, 5, 70}, {70, -1, 5, 70}, {70, 0, 64, 70}, {70, 0, -1, 70}, {70, 3, 64, 70}, {70, 3, -1, 70}, {70, 4, 64, 70}, {-9, 4, 0, 0}, {-9, 0, 64, 0}, {most + 9, -1, 0, most}, {most + 9, 0, -1, most},
	} {
		if got := slot.Start(c.now, c.level, c.slot); got != c.want {
			t.Errorf("Start(%d, %d, %d) = %d, not %d", c.now, c.level, c.slot, got, c.want)
		}
	}
}

// 9.2: starts of slots that are not there, and of slots of levels that are not there.
func TestStartOfNoSlot(t *testing.T) {
	for _, now := range times() {
		stays := func(level, n int) {
			if got := slot.Start(now, level, n); got != clamped(now) {
				t.Fatalf("Start(%d, %d, %d) = %d, not %d", now, level, n, got, clamped(now))
			}
		}
		for _, n := range wrongSlots {
			for level := range levels {
				stays(level, n)
			}
			for _, level := range wrongLevels {
				stays(level, n)
			}
		}
		for _, level := range wrongLevels {
			for n := range slots {
				stays(level, n)
			}
		}
	}
}

// 9.2: turns, written out.
func TestTurn(t *testing.T) {
	for _, c := range []struct{ t, want int }{
		{0, 0}, {1, 0}, {70, 0}, {262144, 0}, {wheel - 1, 0}, {wheel, wheel}, {wheel + 5, wheel}, {2*wheel - 1, wheel}, {2 * wheel, 2 * wheel}, {5*wheel + 262144, 5 * wheel},
		{most - 1, most - wheel}, {most - wheel, most - wheel}, {most - wheel - 1, most - 2*wheel}, {most, most}, {most + 1, most}, {most + wheel, most}, {math.MaxInt, most},
		{-1, 0}, {-wheel, 0}, {-wheel - 1, 0}, {math.MinInt, 0},
	} {
		if got := slot.Turn(c.t); got != c.want {
			t.Errorf("Turn(%d) = %d, not %d", c.t, got, c.want)
		}
	}
}

// 9.1 and 9.2: by dividing.
func TestAsTheModels(t *testing.T) {
	for _, now := range times() {
		for level := range levels {
			if got, want := slot.Part(now, level), modelPart(now, level); got != want {
				t.Fatalf("Part(%d, %d) = %d, not %d", now, level, got, want)
			}
			for n := range slots {
				if got, want := slot.Start(now, level, n), modelStart(now, level, n); got != want {
					t.Fatalf("Start(%d, %d, %d) = %d, not %d", now, level, n, got, want)
				}
			}
		}
		if got, want := slot.Turn(now), clamped(now)/wheel*wheel; got != want {
			t.Fatalf("Turn(%d) = %d, not %d", now, got, want)
		}
		for _, at := range times() {
			level, n := slot.Place(now, at)
			if wantLevel, want := modelPlace(now, at); level != wantLevel || n != want {
				t.Fatalf("Place(%d, %d) = %d, %d, not %d, %d", now, at, level, n, wantLevel, want)
			}
		}
	}
}

// 9.3: what is to come is in its slot, from its start on, which is behind now, or now's own tick.
func TestInItsSlot(t *testing.T) {
	for _, now := range times() {
		for _, at := range times() {
			level, n := slot.Place(now, at)
			if level == levels {
				if n != 0 || slot.Turn(at) <= clamped(now) {
					t.Fatalf("Place(%d, %d) = %d, %d, in the turn that began at %d", now, at, level, n, slot.Turn(at))
				}
				continue
			}
			start := slot.Start(now, level, n)
			if clamped(at) <= clamped(now) {
				if start != clamped(now) || level != 0 {
					t.Fatalf("at %d, %d, which is past, is at the level %d, from %d on", now, at, level, start)
				}
				continue
			}
			if start <= clamped(now) || clamped(at) < start || clamped(at)-start >= lengths[level] {
				t.Fatalf("at %d, %d is at the level %d, from %d on", now, at, level, start)
			}
		}
	}
}

// 9.3: what is to come is found anew at a lower level, when its slot begins, until its own tick is there.
func TestFoundAnew(t *testing.T) {
	for _, begin := range times() {
		for _, at := range times() {
			now, last := clamped(begin), levels+1
			for now < clamped(at) {
				level, n := slot.Place(now, at)
				if level >= last {
					t.Fatalf("from %d on, at %d, %d is at the level %d, behind the level %d", begin, now, at, level, last)
				}
				last = level
				if level == levels {
					now = slot.Turn(at)
				} else {
					now = slot.Start(now, level, n)
				}
			}
			if now < clamped(at) || clamped(begin) < clamped(at) && now != clamped(at) {
				t.Fatalf("from %d on, %d is reached at %d", begin, at, now)
			}
		}
	}
}

// 9.1 and 9.2: each tick of two turns of the level 1, from each tick of a little more than two of the slots of it.
func TestTickByTick(t *testing.T) {
	for _, begin := range []int{0, 4096, wheel - 64} {
		for now := begin; now < begin+130; now++ {
			for at := begin; at < begin+2*4096; at++ {
				level, n := slot.Place(now, at)
				if wantLevel, want := modelPlace(now, at); level != wantLevel || n != want {
					t.Fatalf("Place(%d, %d) = %d, %d, not %d, %d", now, at, level, n, wantLevel, want)
				}
				if level < levels && slot.Start(now, level, n) != modelStart(now, level, n) {
					t.Fatalf("Start(%d, %d, %d) = %d", now, level, n, slot.Start(now, level, n))
				}
			}
		}
	}
}
