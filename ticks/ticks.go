// Package ticks is layer 1: see shared/doc/01-ticks.md.
package ticks

import "hourglass/api"

// Clamp tells the time that a number stands for: none below 0, none above the greatest one.
func Clamp(n int) int {
	return max(0, min(n, api.MaxTick))
}

// Add tells a time behind another one by a span.
func Add(a, b int) int {
	// Two clamped times are at most twice MaxTick together, which an int holds.
	return min(Clamp(a)+Clamp(b), api.MaxTick)
}

// Sub tells how far a time is behind another one; 0, if it is not.
func Sub(a, b int) int {
	return max(0, Clamp(a)-Clamp(b))
}

// Mul tells a span so many times.
func Mul(a, n int) int {
	a, n = Clamp(a), Clamp(n)
	// Asked ahead of multiplying, since the product itself might not fit an int.
	if a > 0 && n > api.MaxTick/a {
		return api.MaxTick
	}
	return a * n
}

// Up tells the first multiple of a grain that is not ahead of a time.
func Up(t, grain int) int {
	t, grain = Clamp(t), max(1, Clamp(grain))
	grains := (t + grain - 1) / grain
	return min(grains*grain, api.MaxTick)
}

// Past tells whether a time is reached, as far as a grain goes.
func Past(now, t, grain int) bool {
	return Clamp(now) >= Up(t, grain)
}
