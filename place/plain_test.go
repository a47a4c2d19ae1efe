package place_test

import (
	"math"
	"slices"

	"gatefold/api"
)

// far is the greatest number of which the chapter speaks.
const far = 1 << 50

func left(x, y, w, h int) api.Floater {
	return api.Floater{Side: api.SideLeft, X: x, Y: y, W: w, H: h}
}

func right(x, y, w, h int) api.Floater {
	return api.Floater{Side: api.SideRight, X: x, Y: y, W: w, H: h}
}

func sp(a, b int) api.Span { return api.Span{A: a, B: b} }

// ask is what is looked a place for, from where on, and in which span across.
type ask struct {
	f  api.Floater
	y  int
	in api.Span
}

// beside are the floats of l that, height by height, have one of the strip from y on, as high as f.
func (q ask) beside(l []api.Floater, y int) []api.Floater {
	return slices.DeleteFunc(slices.Clone(l), func(g api.Floater) bool {
		for h := y; h == y || h < y+q.f.H; h++ {
			if g.Y <= h && h < g.Y+g.H {
				return false
			}
		}
		return true
	})
}

// band is what l's floats leave of the span in the strip from y on.
func (q ask) band(l []api.Floater, y int) api.Span {
	froms, tos := []int{q.in.A}, []int{q.in.B}
	for _, g := range q.beside(l, y) {
		if g.Side == 1 {
			froms = append(froms, g.X+g.W)
		} else {
			tos = append(tos, g.X)
		}
	}
	return sp(slices.Max(froms), slices.Min(tos))
}

// narrow are the floats of l that, each by itself, leave another span in the strip from y on.
func (q ask) narrow(l []api.Floater, y int) []api.Floater {
	return slices.DeleteFunc(q.beside(l, y), func(g api.Floater) bool {
		return q.band([]api.Floater{g}, y) == q.in
	})
}

// first is the height from which on a place is looked for.
func (q ask) first(l []api.Floater) int {
	ys := []int{q.y}
	for _, g := range l {
		ys = append(ys, g.Y)
	}
	return slices.Max(ys)
}

// heights are, by the chapter's words, those that may be the float's, each behind the one from which it is the next.
func (q ask) heights(l []api.Floater) []int {
	all := []int{q.first(l)}
	for {
		var bottoms []int
		for _, g := range q.narrow(l, all[len(all)-1]) {
			bottoms = append(bottoms, g.Y+g.H)
		}
		if len(bottoms) == 0 {
			return all
		}
		all = append(all, slices.Min(bottoms))
	}
}

// long is how many numbers s has, counted one by one.
func long(s api.Span) int {
	n := 0
	for range max(s.B, s.A) - s.A {
		n++
	}
	return n
}

// fits tells whether the float may stand at the height y.
func (q ask) fits(l []api.Floater, y int) bool {
	return long(q.band(l, y)) >= q.f.W || len(q.narrow(l, y)) == 0
}

// across is where the float stands in a band.
func (q ask) across(band api.Span) int {
	if q.f.Side == 1 || band.B-q.f.W < band.A {
		return band.A
	}
	return band.B - q.f.W
}

// spot is, by the chapter's words, where the float goes among l's.
func (q ask) spot(l []api.Floater) (x, at int) {
	all := q.heights(l)
	at = all[slices.IndexFunc(all, func(y int) bool { return q.fits(l, y) })]
	return q.across(q.band(l, at)), at
}

// covered are the points that f covers.
func covered(f api.Floater) map[[2]int]bool {
	points := map[[2]int]bool{}
	for x := f.X; x < f.X+f.W; x++ {
		for y := f.Y; y < f.Y+f.H; y++ {
			points[[2]int{x, y}] = true
		}
	}
	return points
}

// floats are all with these numbers.
func floats(sides, xs, ys, ws, hs []int) []api.Floater {
	var l []api.Floater
	for _, side := range sides {
		for _, x := range xs {
			for _, y := range ys {
				for _, w := range ws {
					for _, h := range hs {
						l = append(l, api.Floater{Side: side, X: x, Y: y, W: w, H: h})
					}
				}
			}
		}
	}
	return l
}

// asks are all of these floats, heights and spans.
func asks(fs []api.Floater, ys []int, spans []api.Span) []ask {
	var l []ask
	for _, f := range fs {
		for _, y := range ys {
			for _, in := range spans {
				l = append(l, ask{f, y, in})
			}
		}
	}
	return l
}

// rows hands out all rows of up to most of these.
func rows[E any](most int, of []E, yield func(l []E)) {
	made := make([]E, 0, most)
	var grow func()
	grow = func() {
		yield(made[:len(made):len(made)])
		if len(made) == most {
			return
		}
		for _, e := range of {
			made = append(made, e)
			grow()
			made = made[:len(made)-1]
		}
	}
	grow()
}

// field is what the tests that go through all of something go through: rows of others, and what is asked of each.
type field struct {
	most   int
	others []api.Floater
	asks   []ask
}

// fields are one of single others of all kinds, one of pairs, and one of threes.
func fields() []field {
	none := []int{0}
	return []field{
		{
			most:   1,
			others: floats([]int{0, 1, 2, 3}, []int{-1, 0, 1, 3}, []int{-1, 0, 2}, []int{-1, 0, 2, 3}, []int{-1, 0, 1, 2}),
			asks: asks(
				floats([]int{0, 1, 2}, none, none, []int{-1, 0, 1, 2, 3, 5}, []int{-1, 2}),
				[]int{-2, 0, 1, 2}, []api.Span{sp(-1, 4), sp(0, 3), sp(2, 2), sp(3, 0)},
			),
		},
		{
			most:   2,
			others: floats([]int{1, 2}, []int{0, 1, 3}, []int{0, 1}, []int{1, 3}, []int{0, 1, 3}),
			asks: asks(
				floats([]int{1, 2}, none, none, []int{0, 1, 2, 4}, []int{1}),
				[]int{0, 2}, []api.Span{sp(0, 4), sp(1, 3), sp(3, 1)},
			),
		},
		{
			most:   3,
			others: floats([]int{1, 2}, []int{1, 4}, []int{0, 1}, []int{1, 2}, []int{1, 3}),
			asks: asks(
				floats([]int{1, 2}, none, none, []int{2, 4}, []int{3}),
				none, []api.Span{sp(0, 5), sp(2, 4)},
			),
		},
	}
}

// each hands out all of the fields: others, and what is asked of them.
func each(yield func(l []api.Floater, q ask)) {
	for _, f := range fields() {
		rows(f.most, f.others, func(l []api.Floater) {
			for _, q := range f.asks {
				yield(l, q)
			}
		})
	}
}

// odds are numbers around all bounds of the chapter, and of the machine.
func odds() []int {
	return []int{
		math.MinInt, math.MinInt + 1, -1 << 62, -far - 1, -far, -100, -1,
		0, 1, 2, 3, 100, api.Max, far, far + 1, 1 << 62, math.MaxInt - 1, math.MaxInt,
	}
}
