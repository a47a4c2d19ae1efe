package flow_test

import (
	"math"
	"slices"
	"strings"
	"testing"

	"gatefold/api"
	"gatefold/read"
)

// most is the greatest number of units.
const most = 1 << 40

func sp(a, b int) api.Span { return api.Span{A: a, B: b} }

// of is the nodes that s is read as.
func of(t *testing.T, s string) []api.Node {
	t.Helper()
	l, at, e := read.Of(s)
	if e != api.OK {
		t.Fatalf("%q is no document, at %d", s, at)
	}
	return l
}

// long is how many numbers s has.
func long(s api.Span) int { return max(s.B-s.A, 0) }

// bottom is where f ends, down.
func bottom(f api.Floater) int { return f.Y + f.H }

// sheet is a document laid out by the words of the chapter, and of those of the layers below: it goes down height by height, and keeps all margins until it is asked for its place.
type sheet struct {
	api.Galley
	l       []api.Node
	width   int
	y       int
	margins []int
}

// laid is, by the chapter's words, the galley of l on that width.
func laid(l []api.Node, width int) api.Galley {
	s := sheet{l: l, width: width, margins: []int{0}}
	for at := 0; at < len(l); {
		at = s.lay(at)
	}
	for i, f := range s.Floats {
		for f.Anchor > 0 && f.Anchor >= len(s.Atoms) {
			f.Anchor--
		}
		s.Floats[i] = f
	}
	s.Height = s.place()
	for _, f := range s.Floats {
		if bottom(f) > s.Height {
			s.Height = bottom(f)
		}
	}
	return s.Galley
}

// place is where the next thing goes.
func (s *sheet) place() int { return s.y + slices.Max(s.margins) }

// more keeps a margin more.
func (s *sheet) more(margin int) { s.margins = append(s.margins, margin) }

// down moves the pen to y.
func (s *sheet) down(y int) { s.y, s.margins = y, []int{0} }

// pad puts a padding below what stands there.
func (s *sheet) pad(n int) {
	if n > 0 {
		s.down(s.place() + n)
	}
}

// lay lays out the node at at, and answers where the next one stands that is not within it.
func (s *sheet) lay(at int) int {
	n := s.l[at]
	switch n.Kind {
	case 1:
		s.clear(n.Style.Clear)
		s.more(n.Style.Top)
		s.pad(n.Style.PadTop)
		for kid := at + 1; kid < at+n.Size; {
			kid = s.lay(kid)
		}
		s.pad(n.Style.PadBottom)
		s.more(n.Style.Bottom)
		return at + n.Size
	case 2:
		for from := 0; from < len(n.Words); {
			from = s.line(at, from)
		}
	case 3:
		band, y := s.room(at, n.W, n.H)
		s.put(api.Atom{Kind: 2, Node: at, X: band.A, Y: y, W: n.W, H: n.H})
	case 4:
		s.float(at)
	}
	return at + 1
}

// clear moves the pen below the floats of these sides.
func (s *sheet) clear(sides int) {
	for _, f := range s.Floats {
		if (sides == 3 || f.Side == sides) && bottom(f) > s.place() {
			s.down(bottom(f))
		}
	}
}

// line lays out a line of the text at at, from the word at from on, and answers from which one on the next line is.
func (s *sheet) line(at, from int) int {
	n := s.l[at]
	band, y := s.room(at, n.Words[from], n.Line)
	to, wide := from+1, n.Words[from]
	for to < len(n.Words) && wide+n.Space+n.Words[to] <= long(band) {
		wide += n.Space + n.Words[to]
		to++
	}
	s.put(api.Atom{Kind: 1, Node: at, From: from, To: to, X: band.A, Y: y, W: wide, H: n.Line})
	return to
}

// put puts an atom, and the pen right below it.
func (s *sheet) put(a api.Atom) {
	s.Atoms = append(s.Atoms, a)
	s.down(a.Y + a.H)
}

// float places the float at at, and lets the pen be.
func (s *sheet) float(at int) {
	n, in := s.l[at], s.across(at)
	y := s.place()
	for _, f := range s.Floats {
		y = max(y, f.Y)
	}
	for long(s.band(in, y, n.H)) < n.W && s.narrowed(in, y, n.H) {
		y++
	}
	band := s.band(in, y, n.H)
	f := api.Floater{Node: at, Side: n.Side, Anchor: len(s.Atoms), X: band.A, Y: y, W: n.W, H: n.H}
	if n.Side == 2 && long(band) > n.W {
		f.X = band.B - n.W
	}
	s.Floats = append(s.Floats, f)
}

// room is where something of the node at at goes down to, so wide and high, and the band there.
func (s *sheet) room(at, w, high int) (band api.Span, y int) {
	in := s.across(at)
	y = s.place()
	for long(s.band(in, y, high)) < w && s.band(in, y, high) != in {
		y++
	}
	return s.band(in, y, high), y
}

// band is what the floats leave of a span in the strip from y on, so high.
func (s *sheet) band(in api.Span, y, high int) api.Span {
	for _, f := range s.Floats {
		switch {
		case f.Y >= y+high || bottom(f) <= y:
		case f.Side == 1:
			in.A = max(in.A, f.X+f.W)
		default:
			in.B = min(in.B, f.X)
		}
	}
	return in
}

// narrowed tells whether one of the floats, by itself, leaves another span in the strip from y on.
func (s *sheet) narrowed(in api.Span, y, high int) bool {
	for _, f := range s.Floats {
		alone := sheet{Galley: api.Galley{Floats: []api.Floater{f}}}
		if alone.band(in, y, high) != in {
			return true
		}
	}
	return false
}

// across is the room of the node at at: what all blocks around it, from the outermost one on, leave of the width.
func (s *sheet) across(at int) api.Span {
	x, w := 0, s.width
	for b, n := range s.l[:at] {
		if b+n.Size > at {
			x = min(x+n.Style.Inset, most)
			w = max(w-2*n.Style.Inset, 1)
		}
	}
	return sp(x, x+w)
}

// scripts hands out all scripts of up to many of these parts; of a part that closes a block, where one is open; what is open in the end is closed.
func scripts(many int, parts []string, yield func(s string)) {
	var grow func(s string, left, open int)
	grow = func(s string, left, open int) {
		yield(s + strings.Repeat("]", open))
		if left == 0 {
			return
		}
		for _, p := range parts {
			now := open + strings.Count(p, "[") - strings.Count(p, "]")
			if now >= 0 {
				grow(s+p, left-1, now)
			}
		}
	}
	grow("", many, 0)
}

// field is how many parts scripts have at most, the parts, and the widths.
type field struct {
	many   int
	parts  []string
	widths []int
}

// fields are one of all kinds of nodes, one of floats, and what stands beside them, one of blocks, which has few of these, and one of texts.
func fields() []field {
	return []field{
		{4, []string{"{2 2}", "{9 1}", "(1 1 2 2 1)", "(3 0 4 1 7)", "<L2 3>", "<R3 2>", "<L9 1>", "[m2p1", "[n3c1", "[i2q2c2", "[c3m4", "]"}, []int{1, 5, 8, 100}},
		{6, []string{"<L2 3>", "<R1 4>", "<L4 1>", "{3 1}", "(2 0 1 3)"}, []int{3, 6}},
		{5, []string{"[m3", "[n4p1", "[c1m1q1", "[i2c2", "<L3 5>", "{1 1}", "]"}, []int{2, 6}},
		{4, []string{"<L2 3>", "<R2 5>", "(1 1 2 2 1 3 1 1 4 1)", "(2 0 1 9 1 1 1)", "(5 3 1 1 1)", "[i1m1n2", "[i3p1q1", "]"}, []int{4, 7, 12}},
	}
}

// each hands out all documents of the fields, and their widths.
func each(t *testing.T, yield func(s string, l []api.Node, width int)) {
	t.Helper()
	for _, f := range fields() {
		scripts(f.many, f.parts, func(s string) {
			l := of(t, s)
			for _, w := range f.widths {
				yield(s, l, w)
			}
		})
	}
}

// odds are numbers around all bounds of the chapter, and of the machine.
func odds() []int {
	return []int{
		math.MinInt, math.MinInt + 1, -1 << 62, -most - 1, -most, -100, -1,
		0, 1, 2, 3, 4, 5, 100, most - 1, most, most + 1, 1 << 62, math.MaxInt - 1, math.MaxInt,
	}
}
