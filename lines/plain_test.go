package lines_test

import (
	"math"
	"slices"

	"gatefold/api"
)

// What the chapter speaks of.
const (
	far  = 1 << 50 // places
	most = 1 << 45 // widths, spaces and heights
)

func left(x, y, w, h int) api.Floater {
	return api.Floater{Side: api.SideLeft, X: x, Y: y, W: w, H: h}
}

func right(x, y, w, h int) api.Floater {
	return api.Floater{Side: api.SideRight, X: x, Y: y, W: w, H: h}
}

func sp(a, b int) api.Span { return api.Span{A: a, B: b} }

// ask is how high something is, from where on it goes down, and in which span across.
type ask struct {
	high, y int
	in      api.Span
}

// beside are the floats of l that, height by height, have one of the strip from y on.
func (q ask) beside(l []api.Floater, y int) []api.Floater {
	return slices.DeleteFunc(slices.Clone(l), func(g api.Floater) bool {
		for h := y; h == y || h < y+q.high; h++ {
			if g.Y <= h && h < g.Y+g.H {
				return false
			}
		}
		return true
	})
}

// band is what l's floats leave of the span in the strip from y on.
func (q ask) band(l []api.Floater, y int) api.Span {
	froms, tos := []int{q.in.A}, []int{q.in.B}
	for _, g := range q.beside(l, y) {
		if g.Side == 1 {
			froms = append(froms, g.X+g.W)
		} else {
			tos = append(tos, g.X)
		}
	}
	return sp(slices.Max(froms), slices.Min(tos))
}

// narrow are the floats of l that, each by itself, leave another span in the strip from y on.
func (q ask) narrow(l []api.Floater, y int) []api.Floater {
	return slices.DeleteFunc(q.beside(l, y), func(g api.Floater) bool {
		return q.band([]api.Floater{g}, y) == q.in
	})
}

// heights are, by the chapter's words, those to which something may go down, each behind the one from which it is the next.
func (q ask) heights(l []api.Floater) []int {
	all := []int{q.y}
	for {
		var bottoms []int
		for _, g := range q.narrow(l, all[len(all)-1]) {
			bottoms = append(bottoms, g.Y+g.H)
		}
		if len(bottoms) == 0 {
			return all
		}
		all = append(all, slices.Min(bottoms))
	}
}

// long is how many numbers s has, counted one by one.
func long(s api.Span) int {
	n := 0
	for range max(s.B, s.A) - s.A {
		n++
	}
	return n
}

// fits tells whether something w wide has room at the height y.
func (q ask) fits(l []api.Floater, w, y int) bool {
	band := q.band(l, y)
	return band == q.in || long(band) >= w
}

// room is, by the chapter's words, where something w wide has room among l's floats.
func (q ask) room(l []api.Floater, w int) (band api.Span, at int) {
	all := q.heights(l)
	at = all[slices.IndexFunc(all, func(y int) bool { return q.fits(l, w, y) })]
	return q.band(l, at), at
}

// text is words, the space between two, and where their lines stand.
type text struct {
	ask
	words []int
	space int
}

// wide is how wide the words from from on, up to to, are with the spaces between.
func (x text) wide(from, to int) int {
	sum := (to - from - 1) * x.space
	for _, w := range x.words[from:to] {
		sum += w
	}
	return sum
}

// line is, by the chapter's words, the line from the word at from on, from the height y on.
func (x text) line(l []api.Floater, from, y int) api.Set {
	if from < 0 || from >= len(x.words) {
		return api.Set{}
	}
	x.y = y
	band, at := x.room(l, x.words[from])
	to := from + 1
	for to < len(x.words) && x.wide(from, to+1) <= long(band) {
		to++
	}
	return api.Set{From: from, To: to, X: band.A, Y: at, W: x.wide(from, to)}
}

// lines is, by the chapter's words, the lines of all words.
func (x text) lines(l []api.Floater) []api.Set {
	var all []api.Set
	from, y := 0, x.y
	for from < len(x.words) {
		s := x.line(l, from, y)
		all = append(all, s)
		from, y = s.To, s.Y+x.high
	}
	return all
}

// inside tells whether some point of the line s, x high, is in a float of l: point by point.
func (x text) inside(l []api.Floater, s api.Set) bool {
	for _, f := range l {
		for a := s.X; a < s.X+s.W; a++ {
			for b := s.Y; b < s.Y+x.high; b++ {
				if f.X <= a && a < f.X+f.W && f.Y <= b && b < f.Y+f.H {
					return true
				}
			}
		}
	}
	return false
}

// floats are all with these numbers.
func floats(sides, xs, ys, ws, hs []int) []api.Floater {
	var l []api.Floater
	for _, side := range sides {
		for _, x := range xs {
			for _, y := range ys {
				for _, w := range ws {
					for _, h := range hs {
						l = append(l, api.Floater{Side: side, X: x, Y: y, W: w, H: h})
					}
				}
			}
		}
	}
	return l
}

// asks are all of these heights, places down and spans.
func asks(highs, ys []int, spans []api.Span) []ask {
	var l []ask
	for _, high := range highs {
		for _, y := range ys {
			for _, in := range spans {
				l = append(l, ask{high, y, in})
			}
		}
	}
	return l
}

// rows hands out all rows of up to long of these.
func rows[E any](long int, of []E, yield func(l []E)) {
	made := make([]E, 0, long)
	var grow func()
	grow = func() {
		yield(made[:len(made):len(made)])
		if len(made) == long {
			return
		}
		for _, e := range of {
			made = append(made, e)
			grow()
			made = made[:len(made)-1]
		}
	}
	grow()
}

// texts are all of these asks with all rows of up to long words of these widths, and these spaces.
func texts(qs []ask, long int, widths, spaces []int) []text {
	var all []text
	rows(long, widths, func(words []int) {
		for _, q := range qs {
			for _, space := range spaces {
				all = append(all, text{q, slices.Clone(words), space})
			}
		}
	})
	return all
}

// field is what the tests that go through all of something go through: rows of floats, what is asked of each, and which texts are set beside them.
type field struct {
	long   int
	floats []api.Floater
	widths []int
	asks   []ask
	texts  []text
}

// fields are one of single floats of all kinds, one of pairs, and one of threes.
func fields() []field {
	return []field{
		{
			long:   1,
			floats: floats([]int{0, 1, 2, 3}, []int{-1, 0, 1, 3}, []int{-1, 0, 2}, []int{-1, 0, 2, 3}, []int{-1, 0, 1, 2}),
			widths: []int{0, 1, 2, 3, 5},
			asks:   asks([]int{0, 1, 2, 4}, []int{-3, -2, 0, 1, 2}, []api.Span{sp(-1, 4), sp(0, 3), sp(2, 2), sp(3, 0)}),
			texts: texts(
				asks([]int{1, 3}, []int{-2, 0, 1}, []api.Span{sp(-1, 4), sp(2, 2), sp(3, 0)}),
				2, []int{0, 1, 4, 6}, []int{0, 1},
			),
		},
		{
			long:   2,
			floats: floats([]int{1, 2}, []int{0, 1, 3}, []int{0, 1}, []int{1, 3}, []int{0, 1, 3}),
			widths: []int{0, 1, 2, 4},
			asks:   asks([]int{0, 1, 2}, []int{-1, 0, 2}, []api.Span{sp(0, 4), sp(1, 3), sp(3, 1)}),
			texts: texts(
				asks([]int{1, 2}, []int{-1}, []api.Span{sp(0, 5)}),
				3, []int{1, 3}, []int{1},
			),
		},
		{
			long:   3,
			floats: floats([]int{1, 2}, []int{1, 4}, []int{0, 1}, []int{1, 2}, []int{1, 3}),
			widths: []int{2, 4},
			asks:   asks([]int{2}, []int{-1, 0}, []api.Span{sp(0, 5), sp(2, 4)}),
			texts: []text{
				{ask{1, 0, sp(0, 5)}, []int{2, 3, 1}, 1},
				{ask{2, -1, sp(0, 5)}, []int{4, 1, 1}, 0},
			},
		},
	}
}

// eachRoom hands out all that is asked of the fields: floats, how wide something is, and where it goes down.
func eachRoom(yield func(l []api.Floater, w int, q ask)) {
	for _, f := range fields() {
		rows(f.long, f.floats, func(l []api.Floater) {
			for _, q := range f.asks {
				for _, w := range f.widths {
					yield(l, w, q)
				}
			}
		})
	}
}

// eachText hands out all that is set beside the floats of the fields.
func eachText(yield func(l []api.Floater, x text)) {
	for _, f := range fields() {
		rows(f.long, f.floats, func(l []api.Floater) {
			for _, x := range f.texts {
				yield(l, x)
			}
		})
	}
}

// odds are numbers around all bounds of the chapter, and of the machine.
func odds() []int {
	return []int{
		math.MinInt, math.MinInt + 1, -1 << 62, -far - 1, -far, -100, -1,
		0, 1, 2, 3, 100, most, most + 1, far, far + 1, 1 << 62, math.MaxInt - 1, math.MaxInt,
	}
}
