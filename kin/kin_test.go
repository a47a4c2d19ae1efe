package kin_test

import (
	"math"
	"slices"
	"strings"
	"testing"

	"gatefold/api"
	"gatefold/flow"
	"gatefold/kin"
	"gatefold/read"
	"gatefold/tree"
	"gatefold/valid"
)

const example = "[ (1 0 5 5) [ {1 1} ] ] {2 2}"

// TestExamples: P16.1, P16.2 and P16.3, the chapter's example.
func TestExamples(t *testing.T) {
	l, row := of(t, example), []int{1, 1, 3, 4}
	check(t, l, row, api.OK)
	for k, want := range []api.Kin{
		{Begins: []int{0}, Text: -1},
		{Both: []int{0}, Text: 1},
		{Begins: []int{2}, Both: []int{0}, Text: -1},
		{Ends: []int{2, 0}, Text: -1},
		{Text: -1},
	} {
		at(t, l, row, k, want)
	}
	for block, want := range [][2]int{{0, 3}, {0, 0}, {2, 3}, {0, 0}, {0, 0}, {0, 0}} {
		held(t, l, row, block, want[0], want[1])
	}
}

// TestCheck: P16.1, of all short documents, and all short rows of their nodes, and of two places beside these.
func TestCheck(t *testing.T) {
	parts := []string{"{1 1}", "(1 0 1 1)", "(1 0 1)", "<L1 1>", "[", "]"}
	may := 0
	scripts(3, parts, func(s string) {
		l, d := of(t, s), tell(s)
		var places []int
		for node := -1; node <= len(l); node++ {
			places = append(places, node)
		}
		rows(5, places, func(row []int) {
			if d.may(row) {
				may++
				check(t, l, row, api.OK)
			} else {
				check(t, l, row, api.ErrArg)
			}
		})
	})
	if may < 200 {
		t.Errorf("only %d rows may be", may)
	}
}

// TestCheckEdges: P16.1, at the edges: a text has one line at least, and no more than words, a box is there once, a block or a float never; all of them in order.
func TestCheckEdges(t *testing.T) {
	l := of(t, "(1 0 5 5 5)[{1 1}<L1 1>][]")
	for _, row := range [][]int{{0, 2}, {0, 0, 2}, {0, 0, 0, 2}} {
		check(t, l, row, api.OK)
	}
	for _, row := range [][]int{
		nil, {}, {0}, {0, 0, 0}, {2}, {2, 0}, {0, 0, 0, 0, 2}, {0, 2, 0}, {0, 2, 2},
		{0, 1, 2}, {0, 1}, {1, 0, 2}, {0, 2, 3}, {0, 3, 2}, {0, 2, 4}, {0, 2, 5}, {0, 2, -1}, {-1, 0, 2},
		{0, 2, math.MaxInt}, {math.MinInt, 0, 2}, {0, math.MaxInt}, {math.MinInt, 2},
	} {
		refused(t, l, row)
	}
}

// TestNoAtoms: P16.1 to P16.3, of documents without atoms: the row that is empty may be, and its one place, ahead of all and behind all, has no kin.
func TestNoAtoms(t *testing.T) {
	for _, s := range []string{"", "[]", "<R2 3>", "[[]<L1 1>[]]"} {
		l := of(t, s)
		for _, row := range [][]int{nil, {}} {
			all(t, l, tell(s), row)
			at(t, l, row, 0, api.Kin{Text: -1})
			no(t, l, row, 1)
		}
		refused(t, l, []int{0})
	}
	check(t, []api.Node{}, nil, api.OK)
}

// TestNone: P16.1 to P16.3: of nodes that are no document's all is refused; of all short rows of nodes with all Sizes.
func TestNone(t *testing.T) {
	var few []api.Node
	for _, n := range of(t, "[](1 0 5 5){1 1}<L1 1>") {
		for n.Size = -1; n.Size < 4; n.Size++ {
			few = append(few, n)
		}
	}
	is, isNot := 0, 0
	rows(3, few, func(l []api.Node) {
		var row []int
		for at, n := range l {
			if n.Kind == api.KindText || n.Kind == api.KindMono {
				row = append(row, at)
			}
		}
		if valid.Is(l) {
			is++
			check(t, l, row, api.OK)
			return
		}
		isNot++
		refused(t, l, row)
		refused(t, l, nil)
	})
	if is < 50 || isNot < 1000 {
		t.Errorf("%d documents, %d that are none", is, isNot)
	}
}

// TestNoDocument: P16.1 to P16.3: of nodes that have a number, or a kind, that no document's have all is refused.
func TestNoDocument(t *testing.T) {
	for _, n := range []api.Node{
		{},
		{Kind: 5, Size: 1},
		{Kind: api.KindMono, Size: 1},
		{Kind: api.KindMono, Size: 1, W: 1, H: -1},
		{Kind: api.KindBlock, Size: 1},
		{Kind: api.KindText, Size: 1, Line: 1},
		{Kind: api.KindText, Size: 1, Line: 1, Words: []int{1, 0}},
		{Kind: api.KindFloat, Size: 1, W: 1, H: 1},
		{Kind: math.MinInt, Size: math.MaxInt},
		{Kind: api.KindBlock, Size: math.MaxInt, Style: api.Plain()},
	} {
		for _, l := range [][]api.Node{{n}, append(of(t, "{1 1}"), n), append([]api.Node{n}, of(t, "{1 1}")...)} {
			for _, row := range [][]int{nil, {0}, {1}, {0, 1}, {0, 0}} {
				refused(t, l, row)
			}
		}
	}
}

// TestLimits: P16.1 to P16.3: documents beyond the limits of chapter 6 are documents.
func TestLimits(t *testing.T) {
	for _, s := range []string{
		strings.Repeat("[", 17) + "{1 1}" + strings.Repeat("]", 17) + "{1 1}",
		strings.Repeat("{1 1}", 2001),
		"[(1 0" + strings.Repeat(" 1", 2001) + ")]",
		"{1 1099511627776}[{1 1}]",
	} {
		l := of(t, s)
		if e := valid.Check(l); e != api.ErrLimit {
			t.Fatalf("%d nodes: %d", len(l), e)
		}
		var row []int
		for at, n := range l {
			row = append(row, slices.Repeat([]int{at}, len(n.Words))...)
			if n.Kind == api.KindMono {
				row = append(row, at)
			}
		}
		d := tell(s)
		check(t, l, row, api.OK)
		for _, k := range []int{0, 1, len(row) - 1, len(row)} {
			at(t, l, row, k, d.kin(row, k))
		}
		for _, block := range []int{0, 1, len(l) - 1} {
			from, to := d.held(row, block)
			held(t, l, row, block, from, to)
		}
	}
}

// TestAll: P16.1, P16.2 and P16.3, of all short documents, and all rows of theirs that may be, at all places.
func TestAll(t *testing.T) {
	many := 0
	documents(t, func(s string, l []api.Node, row []int) {
		many++
		all(t, l, tell(s), row)
	})
	if many < 10000 {
		t.Errorf("only %d rows", many)
	}
}

// TestAtEdges: P16.2, at the edges: blocks that end and begin together, with nothing between, around a text's lines, around all, and blocks in which there is no atom.
func TestAtEdges(t *testing.T) {
	l, row := of(t, "[[{1 1}][[{2 2}]]]"), []int{2, 5}
	at(t, l, row, 0, api.Kin{Begins: []int{0, 1}, Text: -1})
	at(t, l, row, 1, api.Kin{Ends: []int{1}, Begins: []int{3, 4}, Both: []int{0}, Text: -1})
	at(t, l, row, 2, api.Kin{Ends: []int{4, 3, 0}, Text: -1})

	l, row = of(t, "[[[(1 0 5 5)(1 0 5 5)]]]"), []int{3, 3, 4}
	at(t, l, row, 0, api.Kin{Begins: []int{0, 1, 2}, Text: -1})
	at(t, l, row, 1, api.Kin{Both: []int{2, 1, 0}, Text: 3})
	at(t, l, row, 2, api.Kin{Both: []int{2, 1, 0}, Text: -1})
	at(t, l, row, 3, api.Kin{Ends: []int{2, 1, 0}, Text: -1})

	l, row = of(t, "[]{1 1}[[]][<L1 1>]{1 1}[[<L1 1>{1 1}[]]][]"), []int{1, 6, 10}
	at(t, l, row, 0, api.Kin{Text: -1})
	at(t, l, row, 1, api.Kin{Text: -1})
	at(t, l, row, 2, api.Kin{Begins: []int{7, 8}, Text: -1})
	at(t, l, row, 3, api.Kin{Ends: []int{8, 7}, Text: -1})

	// The node of a text's lines may be 0.
	l, row = of(t, "(1 0 5 5)"), []int{0, 0}
	at(t, l, row, 0, api.Kin{Text: -1})
	at(t, l, row, 1, api.Kin{Text: 0})
	at(t, l, row, 2, api.Kin{Text: -1})
}

// TestNoPlace: P16.2: where there is no such place, there is no kin, however far off it is.
func TestNoPlace(t *testing.T) {
	l, row := of(t, example), []int{1, 3, 4}
	for _, k := range append(odds(), 4, 5) {
		no(t, l, row, k)
	}
}

// TestHeldEdges: P16.3, at the edges: blocks with nothing, or floats alone, in them, at the beginning, between, and at the end; nodes that are no blocks; places at which there is no node.
func TestHeldEdges(t *testing.T) {
	l, row := of(t, "[]{1 1}[[]<L1 1>][[(1 0 5 5 5)]{1 1}[]][]"), []int{1, 7, 7, 8}
	for block, want := range [][2]int{{0, 0}, {0, 0}, {0, 0}, {0, 0}, {0, 0}, {1, 4}, {1, 3}, {0, 0}, {0, 0}, {0, 0}, {0, 0}, {0, 0}} {
		held(t, l, row, block, want[0], want[1])
	}
	for _, block := range odds() {
		held(t, l, row, block, 0, 0)
		held(t, nil, nil, block, 0, 0)
	}
	// With an error there is none, even of a block that is there.
	held(t, l, row[:3], 5, 0, 0)
	held(t, l[:9], row, 5, 0, 0)
}

// TestGalleys: P16.1 to P16.3, of the rows of galleys, on all widths up to one line.
func TestGalleys(t *testing.T) {
	for _, s := range []string{
		example,
		"[m5 n7(10 2 30 30 50)][m3{20 8}]<R 3 9>(5 1 20 20 20 20)",
		"[i3[i3(1 0 9 9 9)](1 0 9 9 9)[c3]]{9 9}",
	} {
		l, d := of(t, s), tell(s)
		lengths := make(map[int]int)
		for width := 1; width < 130; width++ {
			g, e := flow.Of(l, width)
			if e != api.OK {
				t.Fatalf("%q, %d wide: %d", s, width, e)
			}
			var row []int
			for _, a := range g.Atoms {
				row = append(row, a.Node)
			}
			lengths[len(row)]++
			all(t, l, d, row)
		}
		if len(lengths) < 2 {
			t.Errorf("%q: always as many atoms", s)
		}
	}
}

// TestStays: P16.4 and R3: neither what is handed in nor the room behind its ends changes, and what stands in that room doesn't count.
func TestStays(t *testing.T) {
	const s = "[(1 0 5 5)[{1 1}]]"
	l, row := of(t, s+"{2 2}"), []int{1, 1, 3, 4}
	some, few := l[:4], row[:3]
	d := tell(s)
	for range 2 {
		all(t, some, d, few)
		refused(t, some, few[:2])
		refused(t, l, few)
		refused(t, some, row)
		if !read.Same(l, of(t, s+"{2 2}")) || !slices.Equal(row, []int{1, 1, 3, 4}) {
			t.Fatalf("now %v, %v", l, row)
		}
	}
}

// lists are those of x, with the room behind their ends.
func lists(x api.Kin) [][]int {
	return [][]int{x.Ends[:cap(x.Ends)], x.Begins[:cap(x.Begins)], x.Both[:cap(x.Both)]}
}

// copied shares nothing with x.
func copied(x api.Kin) api.Kin {
	return api.Kin{Ends: slices.Clone(x.Ends), Begins: slices.Clone(x.Begins), Both: slices.Clone(x.Both), Text: x.Text}
}

// TestNew: P16.4 and R3: what is answered is new memory, each time, each list of it, and behind its end, too.
func TestNew(t *testing.T) {
	const s = "[[[{1 1}]][[(1 0 5 5)]]]"
	l, row := of(t, s), []int{3, 6, 6}
	for k := range 4 {
		for i := range 3 {
			x, _ := kin.At(l, row, k)
			y, _ := kin.At(l, row, k)
			was := copied(x)
			clear(lists(x)[i])
			for j, now := range [][]int{x.Ends, x.Begins, x.Both} {
				if j != i && !slices.Equal(now, [][]int{was.Ends, was.Begins, was.Both}[j]) {
					t.Fatalf("%d: two lists of one answer share memory: now %v", k, x)
				}
			}
			if !same(y, was) || !read.Same(l, of(t, s)) || !slices.Equal(row, []int{3, 6, 6}) {
				t.Fatalf("%d: an answer shares memory: now %v, %v, %v", k, y, l, row)
			}
		}
		x, _ := kin.At(l, row, k)
		was := copied(x)
		clear(l)
		clear(row)
		if !same(x, was) {
			t.Fatalf("%d: an answer changed with what was handed in: now %v", k, x)
		}
		l, row = of(t, s), []int{3, 6, 6}
	}
}

// TestSame: R5: what was asked ahead doesn't show.
func TestSame(t *testing.T) {
	l, row := of(t, example), []int{1, 1, 3, 4}
	d := tell(example)
	for _, odd := range odds() {
		kin.Check(l, []int{odd})
		kin.At([]api.Node{{Kind: odd, Size: odd}}, []int{odd}, odd)
		kin.Held(l, row, odd)
		all(t, l, d, row)
	}
}

// TestOnce: P16.5, told of the answers alone: each block that holds an atom begins at one place, ends at one behind it, those that Held tells, and is in Both between; others never.
func TestOnce(t *testing.T) {
	documents(t, func(s string, l []api.Node, row []int) {
		begins, ends, both := make([][]int, len(l)), make([][]int, len(l)), make([][]int, len(l))
		for k := range len(row) + 1 {
			x, e := kin.At(l, row, k)
			if e != api.OK {
				t.Fatalf("%s, %v, %d: %d", s, row, k, e)
			}
			for _, b := range x.Begins {
				begins[b] = append(begins[b], k)
			}
			for _, b := range x.Ends {
				ends[b] = append(ends[b], k)
			}
			for _, b := range x.Both {
				both[b] = append(both[b], k)
			}
		}
		for b := range l {
			from, to := kin.Held(l, row, b)
			if from == to {
				if from != 0 || len(begins[b])+len(ends[b])+len(both[b]) > 0 {
					t.Fatalf("%s, %v: %d holds nothing, but begins at %v, ends at %v", s, row, b, begins[b], ends[b])
				}
				continue
			}
			var between []int
			for k := from + 1; k < to; k++ {
				between = append(between, k)
			}
			if from > to || !slices.Equal(begins[b], []int{from}) || !slices.Equal(ends[b], []int{to}) || !slices.Equal(both[b], between) {
				t.Fatalf("%s, %v: %d holds %d to %d, but begins at %v, ends at %v, goes on at %v", s, row, b, from, to, begins[b], ends[b], both[b])
			}
		}
	})
}

// TestNested: P16.6, told of the answers alone: who stands within whom, of all that is answered.
func TestNested(t *testing.T) {
	documents(t, func(s string, l []api.Node, row []int) {
		for k := range len(row) + 1 {
			x, _ := kin.At(l, row, k)
			begins := slices.Clone(x.Begins)
			slices.Reverse(begins)
			if !nested(l, slices.Concat(x.Ends, x.Both)) || !nested(l, slices.Concat(begins, x.Both)) {
				t.Fatalf("%s, %v, %d: %v", s, row, k, x)
			}
		}
	})
}

// nested tells whether each of those at is within the one behind, and so within all behind.
func nested(l []api.Node, at []int) bool {
	for i := 1; i < len(at); i++ {
		if at[i-1] == at[i] || !tree.Holds(l, at[i], at[i-1]) {
			return false
		}
	}
	return true
}

// TestMany: P16.1 to P16.3, of a long row.
func TestMany(t *testing.T) {
	const many = 1 << 14
	l := slices.Repeat(of(t, "[[]{1 1}(1 0 1 1)]"), many)
	var row []int
	for i := range many {
		row = append(row, 4*i+2, 4*i+3, 4*i+3)
	}
	check(t, l, row, api.OK)
	for _, i := range []int{1, 2, many / 2, many - 2, many - 1} {
		at(t, l, row, 3*i, api.Kin{Ends: []int{4*i - 4}, Begins: []int{4 * i}, Text: -1})
		at(t, l, row, 3*i+1, api.Kin{Both: []int{4 * i}, Text: -1})
		at(t, l, row, 3*i+2, api.Kin{Both: []int{4 * i}, Text: 4*i + 3})
		held(t, l, row, 4*i, 3*i, 3*i+3)
		held(t, l, row, 4*i+1, 0, 0)
	}
	at(t, l, row, 3*many, api.Kin{Ends: []int{4*many - 4}, Text: -1})
	no(t, l, row, 3*many+1)
	check(t, l, row[:3*many-2], api.ErrArg)
}

// TestDeep: P16.1 to P16.3 and R1, of blocks far within one another.
func TestDeep(t *testing.T) {
	const deep = 1 << 16
	s := strings.Repeat("[", deep) + "{1 1}" + strings.Repeat("]", deep/2) + "{1 1}" + strings.Repeat("]", deep/2)
	l, row := of(t, s), []int{deep, deep + 1}
	var in []int
	for b := range deep {
		in = append(in, b)
	}
	out := slices.Clone(in)
	slices.Reverse(out)
	at(t, l, row, 0, api.Kin{Begins: in, Text: -1})
	at(t, l, row, 1, api.Kin{Ends: out[:deep/2], Both: out[deep/2:], Text: -1})
	at(t, l, row, 2, api.Kin{Ends: out[deep/2:], Text: -1})
	held(t, l, row, 0, 0, 2)
	held(t, l, row, deep/2-1, 0, 2)
	held(t, l, row, deep/2, 0, 1)
	held(t, l, row, deep-1, 0, 1)
	held(t, l, row, deep, 0, 0)
}
