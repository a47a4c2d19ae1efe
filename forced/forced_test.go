package forced_test

import (
	"math"
	"slices"
	"strconv"
	"strings"
	"testing"

	"gatefold/api"
	"gatefold/flow"
	"gatefold/forced"
	"gatefold/kin"
	"gatefold/read"
	"gatefold/valid"
)

const example = "[A2 {1 1}] [B1 [B3 {2 2}]] [h5 {3 3}]"

// TestExamples: P17.1 and P17.2, the chapter's example.
func TestExamples(t *testing.T) {
	l, row := of(t, example), []int{1, 4, 6}
	at(t, l, row, 0, []int{0}, api.BreakAuto)
	at(t, l, row, 1, []int{2, 1, 3}, api.BreakLeft)
	at(t, l, row, 2, []int{0, 0, 2, 0}, api.BreakPage)
	at(t, l, row, 3, nil, api.BreakAuto)
	breaks(t, l, row, api.BreakAuto, api.BreakLeft, api.BreakPage, api.BreakAuto)
}

// TestAll: P17.1 and P17.2, of all short documents, and all rows of theirs that may be, at all places.
func TestAll(t *testing.T) {
	many, found := 0, make(map[int]int)
	documents(t, func(s string, l []api.Node, row []int) {
		many++
		all(t, l, tell(s), row)
		b, _ := forced.All(l, row)
		for _, x := range b {
			found[x]++
		}
	})
	if many < 10000 || found[0] < 1000 || found[1] > 0 || found[2] < 1000 || found[3] < 1000 || found[4] < 1000 {
		t.Errorf("%d rows, these breaks: %v", many, found)
	}
}

// TestAsks: P17.1 and P17.2, of all that four blocks around one place may ask for, with headers and without.
func TestAsks(t *testing.T) {
	heads := []string{"", "h1"}
	for i := range 5 * 5 * 5 * 5 {
		a, b, c, d := strconv.Itoa(i%5), strconv.Itoa(i/5%5), strconv.Itoa(i/25%5), strconv.Itoa(i/125)
		for j := range 4 {
			s := "{9 9}[A" + a + "[A" + b + "{1 1}]][B" + c + heads[j%2] + "[B" + d + heads[j/2] + "{1 1}]]{9 9}"
			all(t, of(t, s), tell(s), []int{0, 3, 6, 7})
		}
	}
}

// TestOrder: P17.1: After goes ahead of Before, those that end go the innermost first, those that begin the outermost first, and a header ahead of its block's Before; the last side holds, whatever comes behind it.
func TestOrder(t *testing.T) {
	for _, c := range []struct {
		s      string
		asks   []int
		forces int
	}{
		{"[A3[A4{1 1}]][B2{1 1}]", []int{4, 3, 2}, api.BreakLeft},
		{"[A4[A3{1 1}]][B1{1 1}]", []int{3, 4, 1}, api.BreakRight},
		{"[A4{1 1}][B3[B2{1 1}]]", []int{4, 3, 2}, api.BreakLeft},
		{"[A3{1 1}][B2[B4{1 1}]]", []int{3, 2, 4}, api.BreakRight},
		{"[A3{1 1}][h1{1 1}]", []int{3, 2, 0}, api.BreakLeft},
		{"[{1 1}][h1B4{1 1}]", []int{0, 2, 4}, api.BreakRight},
		{"[B4[h1{1 1}]]", []int{4, 2, 0}, api.BreakRight},
		{"{1 1}[h1[h1{1 1}]]", []int{2, 0, 2, 0}, api.BreakPage},
		{"{1 1}[h1B1{1 1}]", []int{2, 1}, api.BreakPage},
		{"{1 1}[h1B2{1 1}]", []int{2, 2}, api.BreakPage},
		{"[A2{1 1}][B1{1 1}]", []int{2, 1}, api.BreakPage},
		{"[A1{1 1}][B2{1 1}]", []int{1, 2}, api.BreakPage},
		{"[A1{1 1}][B1{1 1}]", []int{1, 1}, api.BreakAuto},
		{"[A0{1 1}][B0{1 1}]", []int{0, 0}, api.BreakAuto},
		{"[A3{1 1}][B3{1 1}]", []int{3, 3}, api.BreakLeft},
		{"{1 1}{1 1}", nil, api.BreakAuto},
	} {
		l := of(t, c.s)
		var row []int
		for i, n := range l {
			if n.Kind == api.KindMono {
				row = append(row, i)
			}
		}
		at(t, l, row, len(row)-1, c.asks, c.forces)
		breaks(t, l, row, append(slices.Repeat([]int{0}, len(row)-1), c.forces, 0)...)
	}
}

// TestWho: P17.1: only those are asked that begin or end there: not a block that goes on, nor one in which there is no atom, nor Before of one that ends, nor After of one that begins.
func TestWho(t *testing.T) {
	l, row := of(t, "[A2B3[A3B4{1 1}][B4A4h9]<L1 1>[A1B1{1 1}][A2 <R1 1>]]"), []int{2, 6}
	at(t, l, row, 0, []int{3, 4}, api.BreakRight)
	at(t, l, row, 1, []int{3, 1}, api.BreakLeft)
	at(t, l, row, 2, nil, api.BreakAuto)
	breaks(t, l, row, 4, 3, 0)

	// A greater header asks for no more, and a block's other numbers for nothing.
	l, row = of(t, "{1 1}[m9n9p9q9i9o9w9I1c3{1 1}][h1099511627776{1 1}]"), []int{0, 2, 4}
	at(t, l, row, 1, []int{0}, api.BreakAuto)
	at(t, l, row, 2, []int{0, 2, 0}, api.BreakPage)
	breaks(t, l, row, 0, 0, 2, 0)
}

// TestEnds: P17.1 and P17.2: ahead of the first atom pages begin where it is asked; behind the last one nothing is asked, though blocks end there that ask.
func TestEnds(t *testing.T) {
	l, row := of(t, "[B4A3h1[B2A2(1 0 1 1)]]"), []int{2, 2}
	at(t, l, row, 0, []int{2, 4, 2}, api.BreakRight)
	at(t, l, row, 1, nil, api.BreakAuto)
	at(t, l, row, 2, nil, api.BreakAuto)
	breaks(t, l, row, 4, 0, 0)
}

// TestNoAtoms: P17.1 and P17.2, of documents without atoms: their one place is behind all, and nothing is asked.
func TestNoAtoms(t *testing.T) {
	for _, s := range []string{"", "[]", "<R2 3>", "[B2A2h4[B3A3]<L1 1>[A4B4<L1 1>]]"} {
		l := of(t, s)
		for _, row := range [][]int{nil, {}} {
			at(t, l, row, 0, nil, api.BreakAuto)
			breaks(t, l, row, api.BreakAuto)
			no(t, l, row, 1)
			no(t, l, row, -1)
		}
		refused(t, l, []int{0})
	}
}

// TestNoPlace: P17.1: where there is no such place, nothing is asked, however far off it is.
func TestNoPlace(t *testing.T) {
	l, row := of(t, example), []int{1, 4, 6}
	for _, k := range append(odds(), 4, 5) {
		no(t, l, row, k)
		no(t, nil, nil, k)
	}
}

// TestRows: P17.1 and P17.2, of all short rows: the errors are kin's.
func TestRows(t *testing.T) {
	parts := []string{"{1 1}", "(1 0 1 1)", "<L1 1>", "[A2B3h1", "]"}
	may, mayNot := 0, 0
	scripts(3, parts, func(s string) {
		l, d := of(t, s), tell(s)
		var places []int
		for node := -1; node <= len(l); node++ {
			places = append(places, node)
		}
		rows(4, places, func(row []int) {
			if kin.Check(l, row) == api.OK {
				may++
				all(t, l, d, row)
			} else {
				mayNot++
				refused(t, l, row)
			}
		})
	})
	if may < 100 || mayNot < 1000 {
		t.Errorf("%d rows may be, %d may not", may, mayNot)
	}
}

// TestRowEdges: P17.1 and P17.2, of rows that may not be: one line too many, a box that is missing or there twice, a block, no node.
func TestRowEdges(t *testing.T) {
	l := of(t, "(1 0 5 5)[B2A2h3{1 1}<L1 1>]")
	all(t, l, tell("(1 0 5 5)[B2A2h3{1 1}<L1 1>]"), []int{0, 0, 2})
	for _, row := range [][]int{
		nil, {}, {0}, {2}, {0, 0}, {2, 0}, {0, 0, 0, 2}, {0, 2, 0}, {0, 2, 2}, {0, 1, 2}, {0, 2, 3}, {0, 2, 4},
		{-1, 0, 2}, {0, 2, math.MaxInt}, {math.MinInt, 0, 2},
	} {
		refused(t, l, row)
	}
}

// TestNone: P17.1 and P17.2: of nodes that are no document's all is refused; of all short rows of nodes with all Sizes.
func TestNone(t *testing.T) {
	var few []api.Node
	for _, n := range of(t, "[B2A3h1](1 0 5 5){1 1}<L1 1>") {
		for n.Size = -1; n.Size < 4; n.Size++ {
			few = append(few, n)
		}
	}
	is, isNot := 0, 0
	rows(3, few, func(l []api.Node) {
		var row []int
		for at, n := range l {
			if n.Kind == api.KindText || n.Kind == api.KindMono {
				row = append(row, at)
			}
		}
		if valid.Is(l) {
			is++
			if _, e := forced.All(l, row); e != api.OK {
				t.Fatalf("All(%v, %v): %d", l, row, e)
			}
			return
		}
		isNot++
		refused(t, l, row)
		refused(t, l, nil)
	})
	if is < 50 || isNot < 1000 {
		t.Errorf("%d documents, %d that are none", is, isNot)
	}
}

// TestNoDocument: P17.1 and P17.2: of nodes that have a number, or a kind, that no document's have all is refused.
func TestNoDocument(t *testing.T) {
	odd := func(change func(s *api.Style)) api.Node {
		n := api.Node{Kind: api.KindBlock, Size: 1, Style: api.Plain()}
		change(&n.Style)
		return n
	}
	for _, n := range []api.Node{
		{},
		{Kind: 5, Size: 1},
		{Kind: api.KindMono, Size: 1},
		{Kind: api.KindMono, Size: 1, W: 1, H: 1, Style: api.Style{Before: api.BreakPage}},
		{Kind: api.KindBlock, Size: 1},
		{Kind: api.KindText, Size: 1, Line: 1},
		{Kind: api.KindFloat, Size: 1, W: 1, H: 1},
		{Kind: math.MinInt, Size: math.MaxInt},
		{Kind: api.KindBlock, Size: math.MaxInt, Style: api.Plain()},
		odd(func(s *api.Style) { s.Before = 5 }),
		odd(func(s *api.Style) { s.Before = -1 }),
		odd(func(s *api.Style) { s.After = 5 }),
		odd(func(s *api.Style) { s.After = math.MinInt }),
		odd(func(s *api.Style) { s.Head = -1 }),
		odd(func(s *api.Style) { s.Head = api.Max + 1 }),
	} {
		for _, l := range [][]api.Node{{n}, append(of(t, "{1 1}"), n), append([]api.Node{n}, of(t, "{1 1}")...)} {
			for _, row := range [][]int{nil, {0}, {1}, {0, 1}, {0, 0}} {
				refused(t, l, row)
			}
		}
	}
}

// TestLimits: P17.1 and P17.2: documents beyond the limits of chapter 6 are asked, too.
func TestLimits(t *testing.T) {
	for _, s := range []string{
		strings.Repeat("[B1A2", 16) + "[B3A4h1{1 1}]" + strings.Repeat("]", 16) + "[h1{1 1}]",
		strings.Repeat("[B2A3{1 1}]", 1001),
		"[B2A2(1 0" + strings.Repeat(" 1", 2001) + ")][B4{1 1}]",
		"{1 1099511627776}[B4{1 1}]",
	} {
		l := of(t, s)
		if e := valid.Check(l); e != api.ErrLimit {
			t.Fatalf("%d nodes: %d", len(l), e)
		}
		var row, want []int
		for at, n := range l {
			row = append(row, slices.Repeat([]int{at}, len(n.Words))...)
			if n.Kind == api.KindMono {
				row = append(row, at)
			}
		}
		d := tell(s)
		for k := range len(row) + 1 {
			want = append(want, must(d.asked(row, k)))
		}
		breaks(t, l, row, want...)
		for _, k := range []int{0, 1, len(row) - 1, len(row)} {
			at(t, l, row, k, d.asked(row, k), want[k])
		}
	}
}

// TestGalleys: P17.1 and P17.2, of the rows of galleys, on all widths up to one line.
func TestGalleys(t *testing.T) {
	for _, s := range []string{
		example,
		"[m5 n7A2(10 2 30 30 50)][m3B3h4{20 8}]<R 3 9>(5 1 20 20 20 20)",
		"[i3A4[i3B1(1 0 9 9 9)](1 0 9 9 9)[c3B2]]{9 9}",
	} {
		l, d := of(t, s), tell(s)
		for width := 1; width < 130; width++ {
			g, e := flow.Of(l, width)
			if e != api.OK {
				t.Fatalf("%q, %d wide: %d", s, width, e)
			}
			var row []int
			for _, a := range g.Atoms {
				row = append(row, a.Node)
			}
			all(t, l, d, row)
		}
	}
}

// TestStays: P17.3 and R3: neither what is handed in nor the room behind its ends changes, and what stands in that room doesn't count.
func TestStays(t *testing.T) {
	const s, more = "[A2(1 0 5 5)[B3h1{1 1}]]", "[B4{2 2}]"
	l, row := of(t, s+more), []int{1, 1, 3, 5}
	some, few := l[:4], row[:3]
	d := tell(s)
	for range 2 {
		all(t, some, d, few)
		refused(t, some, few[:2])
		refused(t, l, few)
		refused(t, some, row)
		if !read.Same(l, of(t, s+more)) || !slices.Equal(row, []int{1, 1, 3, 5}) {
			t.Fatalf("now %v, %v", l, row)
		}
	}
}

// TestNew: P17.3 and R3: what is answered is new memory, each time, and behind its end, too; and it doesn't change with what was handed in.
func TestNew(t *testing.T) {
	const s = "[A2[A1{1 1}]][B4h1[(1 0 5 5)]]"
	l, row := of(t, s), []int{2, 5, 5}
	for range 2 {
		for k := range 4 {
			a, _ := forced.Asked(l, row, k)
			b, _ := forced.Asked(l, row, k)
			was := slices.Clone(b)
			for i := range a[:cap(a)] {
				a[:cap(a)][i] = -9
			}
			if !slices.Equal(b, was) {
				t.Fatalf("%d: two answers share memory: now %v", k, b)
			}
			all(t, l, tell(s), row)
		}
		a, _ := forced.All(l, row)
		b, _ := forced.All(l, row)
		was := slices.Clone(b)
		for i := range a[:cap(a)] {
			a[:cap(a)][i] = -9
		}
		if !slices.Equal(b, was) {
			t.Fatalf("two answers share memory: now %v", b)
		}
		all(t, l, tell(s), row)
	}
	a, _ := forced.Asked(l, row, 1)
	b, _ := forced.All(l, row)
	clear(l)
	clear(row)
	if !slices.Equal(a, []int{1, 2, 2, 4, 0}) || !slices.Equal(b, []int{0, 4, 0, 0}) {
		t.Fatalf("answers changed with what was handed in: now %v, %v", a, b)
	}
}

// TestSame: R5: what was asked ahead doesn't show.
func TestSame(t *testing.T) {
	l, row := of(t, example), []int{1, 4, 6}
	d := tell(example)
	for _, odd := range odds() {
		forced.Asked(l, row, odd)
		forced.At([]api.Node{{Kind: odd, Size: odd}}, []int{odd}, odd)
		forced.All(l, []int{odd})
		all(t, l, d, row)
	}
}

// TestHeaders: P17.4, told of the answers and of kin's: where a block begins that has a header there is a forced break.
func TestHeaders(t *testing.T) {
	many := 0
	documents(t, func(s string, l []api.Node, row []int) {
		b, _ := forced.All(l, row)
		for at := range l {
			from, to := kin.Held(l, row, at)
			if l[at].Style.Head == 0 || from == to {
				continue
			}
			many++
			if x, _ := forced.At(l, row, from); x == api.BreakAuto || b[from] == api.BreakAuto {
				t.Fatalf("%s, %v: no break where %d begins", s, row, at)
			}
		}
	})
	if many < 1000 {
		t.Errorf("only %d headers", many)
	}
}

// TestTexts: P17.5, told of the answers and of the rows: no break within texts, nor behind all.
func TestTexts(t *testing.T) {
	many := 0
	documents(t, func(s string, l []api.Node, row []int) {
		b, _ := forced.All(l, row)
		for k := range len(row) + 1 {
			if k < len(row) && (k == 0 || row[k-1] != row[k]) {
				continue
			}
			many++
			x, _ := forced.At(l, row, k)
			if asks, _ := forced.Asked(l, row, k); x != api.BreakAuto || b[k] != api.BreakAuto || len(asks) > 0 {
				t.Fatalf("%s, %v, %d: %d, %d, %v", s, row, k, x, b[k], asks)
			}
		}
	})
	if many < 10000 {
		t.Errorf("only %d places", many)
	}
}

// TestNobody: P17.5: where no block asks for a page or a side, or has a header, no break is forced, whoever avoids one.
func TestNobody(t *testing.T) {
	parts := []string{"{1 1}", "(1 0 1 1)", "<L1 1>", "[A1", "[B1I1o9w9c3", "[", "]"}
	scripts(5, parts, func(s string) {
		l := of(t, s)
		tell(s).every(func(row []int) {
			breaks(t, l, row, slices.Repeat([]int{api.BreakAuto}, len(row)+1)...)
		})
	})
}

// TestMany: P17.1 and P17.2, of a long row.
func TestMany(t *testing.T) {
	const many = 1 << 16
	l := slices.Repeat(of(t, "[A4[B3A3]{1 1}[A1(1 0 1 1)]]"), many)
	var row, want []int
	for i := range many {
		row = append(row, 5*i+2, 5*i+4, 5*i+4)
		want = append(want, 4, 0, 0)
	}
	want[0] = 0
	breaks(t, l, row, append(want, 0)...)
	for _, i := range []int{1, many / 2, many - 1} {
		at(t, l, row, 3*i, []int{1, 4, 0}, api.BreakRight)
		at(t, l, row, 3*i+1, []int{0}, api.BreakAuto)
		at(t, l, row, 3*i+2, nil, api.BreakAuto)
	}
	at(t, l, row, 3*many, nil, api.BreakAuto)
	no(t, l, row, 3*many+1)
	no(t, l, row[:3*many-2], 0)
	if b, e := forced.All(l, row[:3*many-2]); e != api.ErrArg || len(b) > 0 {
		t.Errorf("All of a row that may not be: %v, %d", brief(b), e)
	}
}

// TestDeep: P17.1, P17.2 and R1, of blocks far within one another.
func TestDeep(t *testing.T) {
	const deep = 1 << 16
	s := strings.Repeat("[B1A2", deep) + "{1 1}" + strings.Repeat("]", deep/2) + "[B4" + "{1 1}]" + strings.Repeat("]", deep/2) + "{1 1}"
	l, row := of(t, s), []int{deep, deep + 2, deep + 3}
	at(t, l, row, 0, slices.Repeat([]int{1}, deep), api.BreakAuto)
	at(t, l, row, 1, append(slices.Repeat([]int{2}, deep/2), 4), api.BreakRight)
	at(t, l, row, 2, append([]int{0}, slices.Repeat([]int{2}, deep/2)...), api.BreakPage)
	at(t, l, row, 3, nil, api.BreakAuto)
	breaks(t, l, row, 0, 4, 2, 0)
}
