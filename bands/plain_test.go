package bands_test

import (
	"math"
	"slices"

	"gatefold/api"
)

// far is the greatest number of which the chapter speaks.
const far = 1 << 50

func left(x, y, w, h int) api.Floater {
	return api.Floater{Side: api.SideLeft, X: x, Y: y, W: w, H: h}
}

func right(x, y, w, h int) api.Floater {
	return api.Floater{Side: api.SideRight, X: x, Y: y, W: w, H: h}
}

func sp(a, b int) api.Span { return api.Span{A: a, B: b} }

// strip is where one begins, and how high it is told to be.
type strip struct{ y, high int }

// end is, by the chapter's words, where the strip ends.
func (s strip) end() int {
	if s.high < 1 {
		return s.y + 1
	}
	return s.y + s.high
}

// holds is the chapter's word, point by point: (x, y) is in the rectangle that f covers.
func holds(f api.Floater, x, y int) bool {
	return f.X <= x && x < f.X+f.W && f.Y <= y && y < f.Y+f.H
}

// meets tells, height by height, whether the strip has one of those of f.
func meets(f api.Floater, s strip) bool {
	for y := s.y; y < s.end(); y++ {
		if f.Y <= y && y < f.Y+f.H {
			return true
		}
	}
	return false
}

// met are the floats of l that meet the strip.
func met(l []api.Floater, s strip) []api.Floater {
	return slices.DeleteFunc(slices.Clone(l), func(f api.Floater) bool { return !meets(f, s) })
}

// leaves is, by the chapter's words, what the floats l, all of which meet the strip, leave of the span in.
func leaves(l []api.Floater, in api.Span) api.Span {
	froms, tos := []int{in.A}, []int{in.B}
	for _, f := range l {
		if f.Side == 1 {
			froms = append(froms, f.X+f.W)
		} else {
			tos = append(tos, f.X)
		}
	}
	return sp(slices.Max(froms), slices.Min(tos))
}

// narrowing are the floats of l that meet the strip and, each by itself, leave another span than in.
func narrowing(l []api.Floater, s strip, in api.Span) []api.Floater {
	return slices.DeleteFunc(met(l, s), func(f api.Floater) bool { return leaves([]api.Floater{f}, in) == in })
}

// next is, by the chapter's words, the next height.
func next(l []api.Floater, s strip, in api.Span) (int, bool) {
	var bottoms []int
	for _, f := range narrowing(l, s, in) {
		bottoms = append(bottoms, f.Y+f.H)
	}
	slices.Sort(bottoms)
	if len(bottoms) == 0 {
		return 0, false
	}
	return bottoms[0], true
}

// share tells, bit by bit, whether a and b have one in common.
func share(a, b int) bool {
	for bit := range 64 {
		if uint64(a)>>bit%2 == 1 && uint64(b)>>bit%2 == 1 {
			return true
		}
	}
	return false
}

// lowest is, by the chapter's words, the greatest bottom of the floats whose side has a bit of sides.
func lowest(l []api.Floater, sides int) (int, bool) {
	var bottoms []int
	for _, f := range l {
		if share(f.Side, sides) {
			bottoms = append(bottoms, f.Y+f.H)
		}
	}
	return last(bottoms)
}

// top is, by the chapter's words, the greatest Y of all.
func top(l []api.Floater) (int, bool) {
	var ys []int
	for _, f := range l {
		ys = append(ys, f.Y)
	}
	return last(ys)
}

// last is the greatest of l, if there is one.
func last(l []int) (int, bool) {
	slices.Sort(l)
	if len(l) == 0 {
		return 0, false
	}
	return l[len(l)-1], true
}

// floats are all with these numbers.
func floats(sides, xs, ys, ws, hs []int) []api.Floater {
	var l []api.Floater
	for _, side := range sides {
		for _, x := range xs {
			for _, y := range ys {
				for _, w := range ws {
					for _, h := range hs {
						l = append(l, api.Floater{Side: side, X: x, Y: y, W: w, H: h})
					}
				}
			}
		}
	}
	return l
}

// strips are all with these numbers.
func strips(ys, highs []int) []strip {
	var l []strip
	for _, y := range ys {
		for _, high := range highs {
			l = append(l, strip{y, high})
		}
	}
	return l
}

// spans are all whose ends are of these, the empty and the turned ones among them.
func spans(ends ...int) []api.Span {
	var l []api.Span
	for _, a := range ends {
		for _, b := range ends {
			l = append(l, sp(a, b))
		}
	}
	return l
}

// rows hands out all rows of up to long of these floats.
func rows(long int, of []api.Floater, yield func(l []api.Floater)) {
	made := make([]api.Floater, 0, long)
	var grow func()
	grow = func() {
		yield(made[:len(made):len(made)])
		if len(made) == long {
			return
		}
		for _, f := range of {
			made = append(made, f)
			grow()
			made = made[:len(made)-1]
		}
	}
	grow()
}

// field is what the tests that go through all of something go through: rows of floats, strips, and spans across.
type field struct {
	long   int
	floats []api.Floater
	strips []strip
	spans  []api.Span
}

// fields are one of single floats of all kinds, one of pairs, and one of threes.
func fields() []field {
	return []field{
		{
			long:   1,
			floats: floats([]int{-1, 0, 1, 2, 3}, []int{-1, 0, 1, 3, 4}, []int{-1, 0, 2}, []int{-1, 0, 1, 3}, []int{-1, 0, 1, 2}),
			strips: strips([]int{-2, -1, 0, 1, 2, 3, 4}, []int{-2, 0, 1, 2, 4}),
			spans:  spans(-1, 0, 2, 3, 5),
		},
		{
			long:   2,
			floats: floats([]int{1, 2}, []int{0, 1, 3}, []int{-1, 0, 1}, []int{0, 2}, []int{0, 1, 3}),
			strips: strips([]int{-1, 0, 1, 2, 3}, []int{0, 1, 2}),
			spans:  []api.Span{sp(0, 4), sp(1, 3), sp(2, 2), sp(3, 1)},
		},
		{
			long:   3,
			floats: floats([]int{1, 2}, []int{1, 3}, []int{0, 1}, []int{1, 2}, []int{1, 2}),
			strips: []strip{{0, 0}, {0, 1}, {1, 1}, {0, 2}, {-1, 3}},
			spans:  []api.Span{sp(0, 5), sp(2, 4)},
		},
	}
}

// each hands out all rows, strips and spans of the fields.
func each(yield func(l []api.Floater, s strip, in api.Span)) {
	for _, f := range fields() {
		rows(f.long, f.floats, func(l []api.Floater) {
			for _, s := range f.strips {
				for _, in := range f.spans {
					yield(l, s, in)
				}
			}
		})
	}
}

// odds are numbers around all bounds of the chapter, and of the machine.
func odds() []int {
	return []int{
		math.MinInt, math.MinInt + 1, -1 << 62, -far - 1, -far, -100, -1,
		0, 1, 2, 3, 4, 100, api.Max, far, far + 1, 1 << 62, math.MaxInt - 1, math.MaxInt,
	}
}
