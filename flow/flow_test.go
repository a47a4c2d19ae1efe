package flow_test

import (
	"slices"
	"strings"
	"testing"

	"gatefold/api"
	"gatefold/flow"
	"gatefold/margin"
	"gatefold/read"
	"gatefold/tree"
	"gatefold/valid"
	"gatefold/words"
)

func line(node, from, to, x, y, w, h int) api.Atom {
	return api.Atom{Kind: api.AtomLine, Node: node, From: from, To: to, X: x, Y: y, W: w, H: h}
}

func box(node, x, y, w, h int) api.Atom {
	return api.Atom{Kind: api.AtomMono, Node: node, X: x, Y: y, W: w, H: h}
}

func left(node, anchor, x, y, w, h int) api.Floater {
	return api.Floater{Node: node, Side: api.SideLeft, Anchor: anchor, X: x, Y: y, W: w, H: h}
}

func right(node, anchor, x, y, w, h int) api.Floater {
	return api.Floater{Node: node, Side: api.SideRight, Anchor: anchor, X: x, Y: y, W: w, H: h}
}

// galley is what a document is laid out as.
type galley struct {
	atoms  []api.Atom
	floats []api.Floater
	height int
}

// same tells whether g is as want.
func same(g, want api.Galley) bool {
	return slices.Equal(g.Atoms, want.Atoms) && slices.Equal(g.Floats, want.Floats) && g.Height == want.Height
}

// lays holds the galley of l on that width against what is asked.
func lays(t *testing.T, what string, l []api.Node, width int, want api.Galley) {
	t.Helper()
	if g, e := flow.Of(l, width); e != api.OK || !same(g, want) {
		t.Fatalf("%s, %d: %v, %d, not %v", what, width, g, e, want)
	}
}

// lies holds the galley of the script s on that width against what is asked.
func lies(t *testing.T, s string, width int, want galley) {
	t.Helper()
	lays(t, s, of(t, s), width, api.Galley{Atoms: want.atoms, Floats: want.floats, Height: want.height})
}

// told is a script, and what it is laid out as.
type told struct {
	s    string
	want galley
}

// lie holds the galleys of all scripts of l on that width against what is told.
func lie(t *testing.T, width int, l []told) {
	t.Helper()
	for _, x := range l {
		lies(t, x.s, width, x.want)
	}
}

// refused holds an error, and that nothing else is answered, against what is asked.
func refused(t *testing.T, what string, l []api.Node, width int, want api.Errno) {
	t.Helper()
	if g, e := flow.Of(l, width); e != want || !same(g, api.Galley{}) {
		t.Errorf("%s, %d: %v, %d, not %d", what, width, g, e, want)
	}
}

// TestExamples: P14.1, the chapter's examples.
func TestExamples(t *testing.T) {
	lies(t, "[m5 n7(10 2 30 30 50)][m3{20 8}]", 100, galley{
		atoms:  []api.Atom{line(1, 0, 2, 0, 5, 62, 10), line(1, 2, 3, 0, 15, 50, 10), box(3, 0, 32, 20, 8)},
		height: 40,
	})
	lies(t, "<L 30 25>(10 2 30 30 50)", 100, galley{
		atoms:  []api.Atom{line(1, 0, 2, 30, 0, 62, 10), line(1, 2, 3, 30, 10, 50, 10)},
		floats: []api.Floater{left(0, 0, 0, 0, 30, 25)},
		height: 25,
	})
	lies(t, "<R 30 25>[c3 i10{20 8}]", 100, galley{
		atoms:  []api.Atom{box(2, 10, 25, 20, 8)},
		floats: []api.Floater{right(0, 0, 70, 0, 30, 25)},
		height: 33,
	})
}

// TestOf: P14.1, of all documents of the fields.
func TestOf(t *testing.T) {
	each(t, func(s string, l []api.Node, width int) { lays(t, s, l, width, laid(l, width)) })
}

// TestBlocks: P14.1, where blocks begin and end, and what their numbers move.
func TestBlocks(t *testing.T) {
	for _, c := range []struct {
		s     string
		width int
		want  galley
	}{
		// The margin in the end makes the galley higher, and so does a block with nothing in it.
		{"{1 1}[n4]", 9, galley{[]api.Atom{box(0, 0, 0, 1, 1)}, nil, 5}},
		{"[m5p3q2n9]", 9, galley{nil, nil, 19}},
		{"[m5n9]", 9, galley{nil, nil, 9}},
		{"[m9n5]", 9, galley{nil, nil, 9}},
		{"[p3]", 9, galley{nil, nil, 3}},
		// Margins go through blocks; paddings part them.
		{"[m5[m7{1 1}]]", 9, galley{[]api.Atom{box(2, 0, 7, 1, 1)}, nil, 8}},
		{"[m5p1[m7{1 1}]]", 9, galley{[]api.Atom{box(2, 0, 13, 1, 1)}, nil, 14}},
		{"[m5[m7p1{1 1}]]", 9, galley{[]api.Atom{box(2, 0, 8, 1, 1)}, nil, 9}},
		{"[n5[n7{1 1}]]{1 1}", 9, galley{[]api.Atom{box(2, 0, 0, 1, 1), box(3, 0, 8, 1, 1)}, nil, 9}},
		{"[n5q1[n7{1 1}]]{1 1}", 9, galley{[]api.Atom{box(2, 0, 0, 1, 1), box(3, 0, 14, 1, 1)}, nil, 15}},
		{"[n5[n7q1{1 1}]]{1 1}", 9, galley{[]api.Atom{box(2, 0, 0, 1, 1), box(3, 0, 9, 1, 1)}, nil, 10}},
		{"{1 1}[m3n4]{1 1}", 9, galley{[]api.Atom{box(0, 0, 0, 1, 1), box(2, 0, 5, 1, 1)}, nil, 6}},
		// A block's inset is that of what is within it, both ways; its kids' blocks have theirs besides.
		{"[i3{1 1}[i2(1 0 4 1 1)]{9 1}]{9 1}", 15, galley{[]api.Atom{box(1, 3, 0, 1, 1), line(3, 0, 2, 5, 1, 5, 1), line(3, 2, 3, 5, 2, 1, 1), box(4, 3, 3, 9, 1), box(5, 0, 4, 9, 1)}, nil, 5}},
		{"[i70{20 8}]", 100, galley{[]api.Atom{box(1, 70, 0, 20, 8)}, nil, 8}},
		// What is told for pages alone moves nothing.
		{"[h9o5w5B4A3I1(2 0 1 1)]{1 1}", 1, galley{[]api.Atom{line(1, 0, 1, 0, 0, 1, 2), line(1, 1, 2, 0, 2, 1, 2), box(2, 0, 4, 1, 1)}, nil, 5}},
	} {
		lies(t, c.s, c.width, c.want)
	}
}

// TestClear: P14.1, which floats a block clears, and when.
func TestClear(t *testing.T) {
	both := []api.Floater{left(0, 0, 0, 0, 2, 5), right(1, 0, 6, 0, 3, 7)}
	for clear, y := range []int{0, 5, 7, 7} {
		lies(t, "<L2 5><R3 7>[c"+string(rune('0'+clear))+"{4 1}]", 9, galley{[]api.Atom{box(3, []int{2, 0, 0, 0}[clear], y, 4, 1)}, both, max(7, y+1)})
	}
	lie(t, 9, []told{
		// The lowest one of a side, not the last one.
		{"<L1 9><L1 4><R1 3>[c1{9 1}]", galley{[]api.Atom{box(4, 0, 9, 9, 1)}, []api.Floater{left(0, 0, 0, 0, 1, 9), left(1, 0, 1, 0, 1, 4), right(2, 0, 8, 0, 1, 3)}, 10}},
		// No float of its sides: nothing is cleared, not even the margin ahead.
		{"<L1 9>[n2][c2m3{1 1}]", galley{[]api.Atom{box(3, 1, 3, 1, 1)}, []api.Floater{left(0, 0, 0, 0, 1, 9)}, 9}},
		// Ahead of its margin, which is below what it clears; the margin ahead of it is gone, if it goes down.
		{"<L1 4>[n2][c1m3{1 1}]", galley{[]api.Atom{box(3, 0, 7, 1, 1)}, []api.Floater{left(0, 0, 0, 0, 1, 4)}, 8}},
		{"<L1 4>[n4][c1m3{1 1}]", galley{[]api.Atom{box(3, 0, 4, 1, 1)}, []api.Floater{left(0, 0, 0, 0, 1, 4)}, 5}},
		{"<L1 4>[n6][c1m7{1 1}]", galley{[]api.Atom{box(3, 0, 7, 1, 1)}, []api.Floater{left(0, 0, 0, 0, 1, 4)}, 8}},
		{"<L1 4>[n3][c1m3p2{1 1}]", galley{[]api.Atom{box(3, 0, 9, 1, 1)}, []api.Floater{left(0, 0, 0, 0, 1, 4)}, 10}},
		// Floats so far: none behind it, nor within it; one in a block within another one, too.
		{"[c1<L1 4>{1 1}]<L1 4>", galley{[]api.Atom{box(2, 1, 0, 1, 1)}, []api.Floater{left(1, 0, 0, 0, 1, 4), left(3, 0, 1, 1, 1, 4)}, 5}},
		{"[[<L1 4>]][[c1{1 1}]]", galley{[]api.Atom{box(5, 0, 4, 1, 1)}, []api.Floater{left(2, 0, 0, 0, 1, 4)}, 5}},
		// A block that has nothing clears all the same, for all behind it.
		{"<R1 4>[c2]{9 1}", galley{[]api.Atom{box(2, 0, 4, 9, 1)}, []api.Floater{right(0, 0, 8, 0, 1, 4)}, 5}},
	})
}

// TestBeside: P14.1, texts and boxes beside the floats so far, and where the pen is behind them.
func TestBeside(t *testing.T) {
	lie(t, 9, []told{
		// From the pen's place on, with the margin that is not yet set; behind it there is none.
		{"[n3]{1 1}{1 1}", galley{[]api.Atom{box(1, 0, 3, 1, 1), box(2, 0, 4, 1, 1)}, nil, 5}},
		{"[n3](2 0 1)(1 0 1)", galley{[]api.Atom{line(1, 0, 1, 0, 3, 1, 2), line(2, 0, 1, 0, 5, 1, 1)}, nil, 6}},
		// Right below where it went down to.
		{"<L5 4>{5 1}[m1{1 1}]", galley{[]api.Atom{box(1, 0, 4, 5, 1), box(3, 0, 6, 1, 1)}, []api.Floater{left(0, 0, 0, 0, 5, 4)}, 7}},
		{"<L5 4>(2 0 3 5 1){1 1}", galley{[]api.Atom{line(1, 0, 1, 5, 0, 3, 2), line(1, 1, 3, 0, 4, 6, 2), box(2, 0, 6, 1, 1)}, []api.Floater{left(0, 0, 0, 0, 5, 4)}, 7}},
		// As high as it is.
		{"[m1<L5 4>][n0]{4 1}{4 4}", galley{[]api.Atom{box(3, 5, 1, 4, 1), box(4, 5, 2, 4, 4)}, []api.Floater{left(1, 0, 0, 1, 5, 4)}, 6}},
		{"<R1 2>{8 1}<R9 1>{1 2}", galley{[]api.Atom{box(1, 0, 0, 8, 1), box(3, 0, 3, 1, 2)}, []api.Floater{right(0, 0, 8, 0, 1, 2), right(2, 1, 0, 2, 9, 1)}, 5}},
		// Too wide: below all that is in its room, and wider than that.
		{"<L5 4><R1 6>{10 1}", galley{[]api.Atom{box(2, 0, 6, 10, 1)}, []api.Floater{left(0, 0, 0, 0, 5, 4), right(1, 0, 8, 0, 1, 6)}, 7}},
		{"<L5 4><R1 6>(1 0 10 1)", galley{[]api.Atom{line(2, 0, 1, 0, 6, 10, 1), line(2, 1, 2, 0, 7, 1, 1)}, []api.Floater{left(0, 0, 0, 0, 5, 4), right(1, 0, 8, 0, 1, 6)}, 8}},
		// A float in another room is in the way where it reaches into this one.
		{"<L2 4>[i2{5 1}]", galley{[]api.Atom{box(2, 2, 0, 5, 1)}, []api.Floater{left(0, 0, 0, 0, 2, 4)}, 4}},
		{"<L2 4>[i1{7 1}{6 1}]", galley{[]api.Atom{box(2, 1, 4, 7, 1), box(3, 1, 5, 6, 1)}, []api.Floater{left(0, 0, 0, 0, 2, 4)}, 6}},
		{"[i4<L3 2>]{9 1}{2 1}", galley{[]api.Atom{box(2, 0, 2, 9, 1), box(3, 0, 3, 2, 1)}, []api.Floater{left(1, 0, 4, 0, 3, 2)}, 4}},
		{"[i4<L3 2>]{2 1}", galley{[]api.Atom{box(2, 7, 0, 2, 1)}, []api.Floater{left(1, 0, 4, 0, 3, 2)}, 2}},
		// Floats behind it are in nobody's way.
		{"{9 3}<L5 4>", galley{[]api.Atom{box(0, 0, 0, 9, 3)}, []api.Floater{left(1, 0, 0, 3, 5, 4)}, 7}},
	})
}

// TestFloats: P14.1, where floats stand, their anchors, and that the pen stays.
func TestFloats(t *testing.T) {
	lie(t, 9, []told{
		{"<L9 1>", galley{nil, []api.Floater{left(0, 0, 0, 0, 9, 1)}, 1}},
		{"<L60 1><R60 1>", galley{nil, []api.Floater{left(0, 0, 0, 0, 60, 1), right(1, 0, 0, 1, 60, 1)}, 2}},
		// From the pen's place on, with its margin, which goes on collapsing behind it.
		{"[m3<L2 1>[m5{1 1}]]", galley{[]api.Atom{box(3, 0, 5, 1, 1)}, []api.Floater{left(1, 0, 0, 3, 2, 1)}, 6}},
		{"[n3]<R2 1>[m2{1 1}]", galley{[]api.Atom{box(3, 0, 3, 1, 1)}, []api.Floater{right(1, 0, 7, 3, 2, 1)}, 4}},
		// Not above one ahead, in whichever block.
		{"[m4<L1 1>]<R1 9>", galley{nil, []api.Floater{left(1, 0, 0, 4, 1, 1), right(2, 0, 8, 4, 1, 9)}, 13}},
		{"<L5 2><L5 1><R1 1>{1 1}", galley{[]api.Atom{box(3, 5, 0, 1, 1)}, []api.Floater{left(0, 0, 0, 0, 5, 2), left(1, 0, 0, 2, 5, 1), right(2, 0, 8, 2, 1, 1)}, 3}},
		// In their rooms.
		{"[i2<L1 1><R1 1><L3 1>]", galley{nil, []api.Floater{left(1, 0, 2, 0, 1, 1), right(2, 0, 6, 0, 1, 1), left(3, 0, 3, 0, 3, 1)}, 1}},
		// The atoms so far, each line one; of those behind the last atom that one.
		{"<L1 1>{1 1}<L1 1>(1 0 5 5)<R1 1>{1 1}<R1 1>", galley{
			[]api.Atom{box(1, 1, 0, 1, 1), line(3, 0, 1, 1, 1, 5, 1), line(3, 1, 2, 0, 2, 5, 1), box(5, 0, 3, 1, 1)},
			[]api.Floater{left(0, 0, 0, 0, 1, 1), left(2, 1, 0, 1, 1, 1), right(4, 3, 8, 3, 1, 1), right(6, 3, 8, 4, 1, 1)}, 5}},
		{"{1 1}<L1 1>", galley{[]api.Atom{box(0, 0, 0, 1, 1)}, []api.Floater{left(1, 0, 0, 1, 1, 1)}, 2}},
		{"{1 1}{1 1}[<L1 1>][<L1 1>]", galley{[]api.Atom{box(0, 0, 0, 1, 1), box(1, 0, 1, 1, 1)}, []api.Floater{left(3, 1, 0, 2, 1, 1), left(5, 1, 1, 2, 1, 1)}, 3}},
		// The galley's end is the lowest float's, or the pen's.
		{"<L1 9><L1 3>{1 4}", galley{[]api.Atom{box(2, 2, 0, 1, 4)}, []api.Floater{left(0, 0, 0, 0, 1, 9), left(1, 0, 1, 0, 1, 3)}, 9}},
		{"<L1 9><R1 3>[n6{1 4}]", galley{[]api.Atom{box(3, 1, 0, 1, 4)}, []api.Floater{left(0, 0, 0, 0, 1, 9), right(1, 0, 8, 0, 1, 3)}, 10}},
		{"<R1 9>[n5{1 4}]", galley{[]api.Atom{box(2, 0, 0, 1, 4)}, []api.Floater{right(0, 0, 8, 0, 1, 9)}, 9}},
	})
}

// TestEmpty: P14.1 and R3: a document may have no node; an empty row is as good as nil.
func TestEmpty(t *testing.T) {
	for _, l := range [][]api.Node{nil, {}, of(t, "{1 1}")[:0]} {
		for _, w := range []int{1, 100, most} {
			lays(t, "nothing", l, w, api.Galley{})
		}
	}
}

// TestWidths: P14.1: a width that is no size is refused, ahead of all else.
func TestWidths(t *testing.T) {
	for _, w := range odds() {
		if 1 <= w && w <= most {
			lies(t, "{20 8}", w, galley{[]api.Atom{box(0, 0, 0, 20, 8)}, nil, 8})
			continue
		}
		refused(t, "no size", of(t, "{20 8}"), w, api.ErrArg)
		refused(t, "no size, no document's", make([]api.Node, 1), w, api.ErrArg)
		refused(t, "no size, beyond the limits", of(t, "{1 1099511627776}{1 1}"), w, api.ErrArg)
		refused(t, "no size, no node", nil, w, api.ErrArg)
	}
}

// TestLimits: P14.1: what is within the limits has a galley; what is beyond them is refused.
func TestLimits(t *testing.T) {
	for i, c := range []struct{ may, not string }{
		{strings.Repeat("[", 16) + strings.Repeat("]", 16), strings.Repeat("[", 17) + strings.Repeat("]", 17)},
		{strings.Repeat("[]", 2000), strings.Repeat("[]", 2001)},
		{strings.Repeat("(1 1 1 1)", 1000), strings.Repeat("(1 1 1 1)", 1000) + "<L1 1>"},
		{"{1 1099511627776}", "{1 1099511627776}[m1]"},
		{"<L1 1099511627776>", "<L1 1099511627776>[h1]"},
		{"(549755813888 0 1 1)", "(549755813889 0 1 1)"},
	} {
		if g, e := flow.Of(of(t, c.may), 9); e != api.OK || i != 0 && i != 1 && g.Height == 0 {
			t.Errorf("%d: %d high, %d", i, g.Height, e)
		}
		refused(t, c.not, of(t, c.not), 9, api.ErrLimit)
	}
	l := of(t, "{1 1099511627776}{1 1}{1 1}")
	l[2].W = 0
	refused(t, "beyond the limits, no document's", l, 9, api.ErrArg)
}

// numbers are the numbers of a node, one by one.
func numbers(n *api.Node) []*int {
	s := &n.Style
	l := []*int{
		&n.Kind, &n.Size, &n.Line, &n.Space, &n.Side, &n.W, &n.H,
		&s.Top, &s.Bottom, &s.PadTop, &s.PadBottom, &s.Inset, &s.Orphans, &s.Widows,
		&s.Head, &s.Before, &s.After, &s.Inside, &s.Clear,
	}
	for i := range n.Words {
		l = append(l, &n.Words[i])
	}
	return l
}

// TestBeyond: P14.1 and R1: whichever number of whichever node is an odd one, the call comes to its end, with valid's error or a galley.
func TestBeyond(t *testing.T) {
	const s = "<L3 2>[i1c1(2 1 3 4){2 2}[m1<R1 3>]](1 0 1)"
	for at, n := range of(t, s) {
		for i := range numbers(&n) {
			for _, odd := range odds() {
				for _, w := range []int{0, 1, 7, most} {
					l := of(t, s)
					*numbers(&l[at])[i] = odd
					want := valid.Check(l)
					if w == 0 {
						want = api.ErrArg
					}
					if want != api.OK {
						refused(t, s, l, w, want)
					} else if _, e := flow.Of(l, w); e != api.OK {
						t.Errorf("%v, %d: %d", l, w, e)
					}
				}
			}
		}
	}
}

// TestNoDocument: P14.1, of all short rows of nodes with all Sizes: those that are no document's are refused.
func TestNoDocument(t *testing.T) {
	kinds := append(of(t, "[](1 1 1){1 1}<L1 1>"), api.Node{}, api.Node{Kind: 5, Size: 1})
	many := 0
	var grow func(l []api.Node)
	grow = func(l []api.Node) {
		if valid.Is(l) {
			lays(t, "nodes", l, 5, laid(l, 5))
		} else {
			many++
			refused(t, "no document's", l, 5, api.ErrArg)
		}
		if len(l) == 3 {
			return
		}
		for _, n := range kinds {
			for n.Size = -1; n.Size <= 4; n.Size++ {
				grow(append(slices.Clone(l), n))
			}
		}
	}
	grow(nil)
	if many < 1000 {
		t.Errorf("only %d rows", many)
	}
}

// roomy is the document of s, with words and nodes behind it, in the same memory.
func roomy(t *testing.T, s string) (l, behind []api.Node) {
	t.Helper()
	l = append(of(t, s), of(t, "<L9 9>{9 9}")...)
	for i, n := range l {
		if n.Kind == api.KindText {
			l[i].Words = append(n.Words, 1, 1)[:len(n.Words)]
		}
	}
	return l[:len(l)-2], l
}

// wide is all words of l's texts, and those that stand behind them.
func wide(l []api.Node) []int {
	var all []int
	for _, n := range l {
		if n.Kind == api.KindText {
			all = append(all, n.Words[:len(n.Words)+2]...)
		}
	}
	return all
}

// TestStays: P14.2 and R3: neither nodes nor words change, nor the room behind them, and what stands in that room doesn't count.
func TestStays(t *testing.T) {
	const s = "<L3 2>[i1c1(2 1 3 4){2 2}[m1<R1 3>]](1 0 1)"
	l, behind := roomy(t, s)
	was, wasBehind := roomy(t, s)
	for w := -1; w < 20; w++ {
		if w > 0 {
			lays(t, s, l, w, laid(was, w))
		}
		flow.Of(l, w)
		if !read.Same(l, was) || !read.Same(behind, wasBehind) || !slices.Equal(wide(l), wide(was)) {
			t.Fatalf("%d: now %v, %v", w, behind, wide(l))
		}
	}
}

// TestNew: P14.2 and R3: what is answered is new memory, each time.
func TestNew(t *testing.T) {
	l := of(t, "<L3 2>[i1c1(2 1 3 4){2 2}[m1<R1 3>]](1 0 1)")
	want := laid(l, 8)
	g, _ := flow.Of(l, 8)
	other, _ := flow.Of(l, 8)
	clear(g.Atoms[:cap(g.Atoms)])
	clear(g.Floats[:cap(g.Floats)])
	for _, n := range l {
		clear(n.Words)
	}
	clear(l)
	if !same(other, want) {
		t.Errorf("now %v, not %v", other, want)
	}
}

// TestSame: R5: what was asked ahead doesn't show.
func TestSame(t *testing.T) {
	l := of(t, "<L3 2>[i1c1(2 1 3 4){2 2}[m1<R1 3>]](1 0 1)")
	want := laid(l, 8)
	for _, odd := range odds() {
		flow.Of(l, odd)
		flow.Of(l[1:], 7)
		flow.Of(l[:4], 7)
		lays(t, "again", l, 8, want)
	}
}

// TestEachOnce: P14.3: atoms stand in the nodes' order, of each text all its words, in order, of each box one; floats likewise.
func TestEachOnce(t *testing.T) {
	each(t, func(s string, l []api.Node, width int) {
		g, _ := flow.Of(l, width)
		atoms, floats := g.Atoms, g.Floats
		for at, n := range l {
			switch n.Kind {
			case api.KindText:
				from := 0
				for len(atoms) > 0 && atoms[0].Node == at {
					a := atoms[0]
					if a.Kind != api.AtomLine || a.From != from || a.To <= from || a.H != n.Line || a.W != words.Wide(n.Words, n.Space, from, a.To) {
						t.Fatalf("%s, %d: %v, from %d", s, width, a, from)
					}
					from, atoms = a.To, atoms[1:]
				}
				if from != len(n.Words) {
					t.Fatalf("%s, %d: up to the word %d", s, width, from)
				}
			case api.KindMono:
				if len(atoms) == 0 || atoms[0] != box(at, atoms[0].X, atoms[0].Y, n.W, n.H) {
					t.Fatalf("%s, %d: the node %d, %v", s, width, at, atoms)
				}
				atoms = atoms[1:]
			case api.KindFloat:
				if len(floats) == 0 || floats[0] != (api.Floater{Node: at, Side: n.Side, Anchor: floats[0].Anchor, X: floats[0].X, Y: floats[0].Y, W: n.W, H: n.H}) {
					t.Fatalf("%s, %d: the node %d, %v", s, width, at, floats)
				}
				floats = floats[1:]
			}
		}
		if len(atoms)+len(floats) > 0 {
			t.Fatalf("%s, %d: %v and %v besides", s, width, atoms, floats)
		}
	})
}

// TestAnchors: P14.1 and P14.3: a float's anchor is the first atom of a node behind it, or the last one of all.
func TestAnchors(t *testing.T) {
	each(t, func(s string, l []api.Node, width int) {
		g, _ := flow.Of(l, width)
		for _, f := range g.Floats {
			want := slices.IndexFunc(g.Atoms, func(a api.Atom) bool { return a.Node > f.Node })
			if want < 0 {
				want = max(len(g.Atoms)-1, 0)
			}
			if f.Anchor != want {
				t.Fatalf("%s, %d: %v, not at %d", s, width, f, want)
			}
		}
	})
}

// TestBelow: P14.4: no atom stands higher than the bottom of the one ahead, no float higher than one ahead, and all lie above the galley's end.
func TestBelow(t *testing.T) {
	each(t, func(s string, l []api.Node, width int) {
		g, _ := flow.Of(l, width)
		y := 0
		for _, a := range g.Atoms {
			if a.Y < y || a.Y+a.H > g.Height {
				t.Fatalf("%s, %d: %v below %d, up to %d", s, width, a, y, g.Height)
			}
			y = a.Y + a.H
		}
		y = 0
		for _, f := range g.Floats {
			if f.Y < y || bottom(f) > g.Height {
				t.Fatalf("%s, %d: %v below %d, up to %d", s, width, f, y, g.Height)
			}
			y = f.Y
		}
	})
}

// meet tells whether f has a point of the rectangle from x and y on, w wide and h high.
func meet(f api.Floater, x, y, w, h int) bool {
	return f.X < x+w && x < f.X+f.W && f.Y < y+h && y < bottom(f)
}

// TestApart: P14.5: an atom that is not wider than its room lies in it, and has no point in a float; floats that are not wider than theirs, which are the whole width, are apart.
func TestApart(t *testing.T) {
	each(t, func(s string, l []api.Node, width int) {
		g, _ := flow.Of(l, width)
		rooms := tree.Rooms(l, width)
		for _, a := range g.Atoms {
			r := rooms[a.Node]
			if a.W > r.W {
				continue
			}
			in := slices.ContainsFunc(g.Floats, func(f api.Floater) bool { return meet(f, a.X, a.Y, a.W, a.H) })
			if a.X < r.X || a.X+a.W > r.X+r.W || in {
				t.Fatalf("%s, %d: %v in %v, beside %v", s, width, a, r, g.Floats)
			}
		}
		whole := slices.DeleteFunc(g.Floats, func(f api.Floater) bool { return f.W > width || rooms[f.Node].W != width })
		for i, f := range whole {
			if slices.ContainsFunc(whole[:i], func(h api.Floater) bool { return meet(f, h.X, h.Y, h.W, h.H) }) {
				t.Fatalf("%s, %d: %v among %v", s, width, f, whole)
			}
		}
	})
}

// steps are what a pen does with l, of which none is a float, on that width: at each of a text's lines, and each box, something is put.
func steps(l []api.Node, rooms []api.Room) []api.Step {
	var all []api.Step
	for at := 0; at < len(l); at += l[at].Size {
		n := l[at]
		switch n.Kind {
		case api.KindBlock:
			all = append(all, api.Step{Kind: api.StepEnter, A: n.Style.Top, B: n.Style.PadTop})
			all = append(all, steps(l[at+1:at+n.Size], rooms[at+1:])...)
			all = append(all, api.Step{Kind: api.StepLeave, A: n.Style.Bottom, B: n.Style.PadBottom})
		case api.KindText:
			for range words.All(n.Words, n.Space, rooms[at].W) {
				all = append(all, api.Step{Kind: api.StepPut, A: n.Line})
			}
		case api.KindMono:
			all = append(all, api.Step{Kind: api.StepPut, A: n.H})
		}
	}
	return all
}

// TestWithoutFloats: P14.6: without floats atoms stand where a pen's steps put them, at their rooms' beginnings.
func TestWithoutFloats(t *testing.T) {
	many := 0
	each(t, func(s string, l []api.Node, width int) {
		if strings.Contains(s, "<") {
			return
		}
		many++
		g, _ := flow.Of(l, width)
		rooms := tree.Rooms(l, width)
		end, at := margin.Run(api.Pen{}, steps(l, rooms)...)
		if len(at) != len(g.Atoms) || g.Height != margin.At(end) {
			t.Fatalf("%s, %d: %v, not at %v, up to %v", s, width, g, at, end)
		}
		for i, a := range g.Atoms {
			if a.Y != at[i] || a.X != rooms[a.Node].X {
				t.Fatalf("%s, %d: %v, not at %d in %v", s, width, a, at[i], rooms[a.Node])
			}
		}
	})
	if many < 1000 {
		t.Errorf("only %d documents", many)
	}
}

// TestFar: P14.1 and R6: as far out as documents go, all is as with small numbers.
func TestFar(t *testing.T) {
	const n = most / 128
	scripts(4, []string{"{2 2}", "{9 1}", "(2 1 2 2 1)", "<L2 3>", "<R3 2>", "[m2p1", "[n3c1", "[q2c2", "[i1c3", "]"}, func(s string) {
		l := of(t, s)
		g := laid(l, 12)
		for at := range l {
			for _, p := range numbers(&l[at])[2:] {
				*p *= n
			}
			x := &l[at]
			x.Side /= n
			x.Style.Orphans, x.Style.Widows, x.Style.Clear = x.Style.Orphans/n, x.Style.Widows/n, x.Style.Clear/n
		}
		for i, a := range g.Atoms {
			g.Atoms[i] = api.Atom{Kind: a.Kind, Node: a.Node, From: a.From, To: a.To, X: a.X * n, Y: a.Y * n, W: a.W * n, H: a.H * n}
		}
		for i, f := range g.Floats {
			g.Floats[i] = api.Floater{Node: f.Node, Side: f.Side, Anchor: f.Anchor, X: f.X * n, Y: f.Y * n, W: f.W * n, H: f.H * n}
		}
		g.Height *= n
		lays(t, s, l, 12*n, g)
	})
}

// TestFarEdges: P14.1 and R6, at the last numbers of documents.
func TestFarEdges(t *testing.T) {
	lies(t, "<L1099511627776 1099511627773>[i1099511627776<R1099511627776 1>{1099511627776 1}(1 1099511627776 1099511627776)]", most, galley{
		[]api.Atom{box(3, most, 1, most, 1), line(4, 0, 1, most, 2, most, 1)},
		[]api.Floater{left(0, 0, 0, 0, most, most-3), right(2, 0, most, 0, most, 1)},
		most - 3,
	})
	lies(t, "<L1 1099511627775>{1099511627776 1}", most, galley{
		[]api.Atom{box(1, 0, most-1, most, 1)}, []api.Floater{left(0, 0, 0, 0, 1, most-1)}, most,
	})
	lies(t, "[m1099511627776]", 1, galley{nil, nil, most})
	lies(t, "(1 1099511627776 1 1 1099511627776)", most, galley{
		[]api.Atom{line(0, 0, 1, 0, 0, 1, 1), line(0, 1, 2, 0, 1, 1, 1), line(0, 2, 3, 0, 2, most, 1)}, nil, 3,
	})
}

// TestMany: P14.1, of as many nodes, words and floats as the limits allow, and as deep blocks.
func TestMany(t *testing.T) {
	const many = 1999
	lies(t, strings.Repeat("<L1 1>", many)+"{9 1}", many, galley{
		[]api.Atom{box(many, 0, 1, 9, 1)}, stairs(many, func(i int) api.Floater { return left(i, 0, i, 0, 1, 1) }), 2,
	})
	lies(t, strings.Repeat("<R2 3>", many)+"{3 1}", 3, galley{
		[]api.Atom{box(many, 0, 3*many, 3, 1)}, stairs(many, func(i int) api.Floater { return right(i, 0, 1, 3*i, 2, 3) }), 3*many + 1,
	})
	l := of(t, strings.Repeat("[m1p1i1q1", 16)+"(2 1"+strings.Repeat(" 3", 2000)+")"+strings.Repeat("]", 16))
	lays(t, "deep", l, 39, laid(l, 39))
	l = of(t, strings.Repeat("<L1 5>{2 1}<R2 7>(1 1 2 3)", 400))
	lays(t, "mixed", l, 9, laid(l, 9))
}

// stairs are many floats.
func stairs(many int, of func(i int) api.Floater) []api.Floater {
	var l []api.Floater
	for i := range many {
		l = append(l, of(i))
	}
	return l
}
