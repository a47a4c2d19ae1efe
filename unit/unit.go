// Package unit is layer 1: lengths in whole units, which stay within their limits. See shared/doc/01-unit.md.
package unit

import "gatefold/api"

// Clamp is the length nearest to n.
func Clamp(n int) int { return min(max(n, -api.Max), api.Max) }

// May tells whether n is a size.
func May(n int) bool { return n >= 1 && n <= api.Max }

// Add is the sum of l, which stays a length at every step.
func Add(l ...int) int {
	sum := 0
	for _, n := range l {
		// Two lengths can't wrap round; two numbers that are none could.
		sum = Clamp(sum + Clamp(n))
	}
	return sum
}

// Sub is a less b.
func Sub(a, b int) int { return Clamp(Clamp(a) - Clamp(b)) }

// Mul is a, n times.
func Mul(a, n int) int {
	a, n = Clamp(a), Clamp(n)
	// Asked by a division, because the product may be beyond 64 bits.
	if a == 0 || size(n) <= api.Max/size(a) {
		return a * n
	}
	if (a < 0) != (n < 0) {
		return -api.Max
	}
	return api.Max
}

// size is how far n, a length, is from 0.
func size(n int) int { return max(n, -n) }

// Parts is the least number of parts of b that reach a; false, if there is none.
func Parts(a, b int) (int, bool) {
	a, b = Clamp(a), Clamp(b)
	if a < 0 || b < 1 {
		return 0, false
	}
	return (a + b - 1) / b, true
}

// Least is the least one of l, as a length; 0 of none.
func Least(l ...int) int {
	return Clamp(first(l, func(a, b int) bool { return a < b }))
}

// Greatest is the greatest one of l, as a length; 0 of none.
func Greatest(l ...int) int {
	return Clamp(first(l, func(a, b int) bool { return a > b }))
}

// first is the one of l that goes ahead of all others; T's zero value of none.
func first[T any](l []T, ahead func(a, b T) bool) T {
	var best T
	for i, x := range l {
		if i == 0 || ahead(x, best) {
			best = x
		}
	}
	return best
}

// Pixels is how many whole pixels n has, brought down, and how many units more.
func Pixels(n int) (whole, rest int) {
	n = Clamp(n)
	rest = n % api.Pixel
	if rest < 0 {
		// Go's division goes towards 0, but pixels are brought down.
		rest += api.Pixel
	}
	return (n - rest) / api.Pixel, rest
}
