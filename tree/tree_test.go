package tree_test

import (
	"slices"
	"testing"

	"gatefold/api"
	"gatefold/read"
	"gatefold/tree"
	"gatefold/valid"
)

// block is one with an inset; its Size is told by what is put into it.
func block(inset int) api.Node {
	n := api.Node{Kind: api.KindBlock, Size: 1, Style: api.Plain()}
	n.Style.Inset = inset
	return n
}

func text() api.Node {
	return api.Node{Kind: api.KindText, Size: 1, Line: 10, Space: 2, Words: []int{30, 40}}
}

func box() api.Node { return api.Node{Kind: api.KindMono, Size: 1, W: 3, H: 4} }

func float(side int) api.Node {
	return api.Node{Kind: api.KindFloat, Size: 1, Side: side, W: 5, H: 6}
}

func sized(n api.Node, size int) api.Node {
	n.Size = size
	return n
}

func of(t *testing.T, s string) []api.Node {
	t.Helper()
	l, _, e := read.Of(s)
	if e != api.OK {
		t.Fatalf("%q is no document", s)
	}
	return l
}

// deep is n blocks within one another, with insets of inset.
func deep(n, inset int) []api.Node {
	l := make([]api.Node, n)
	for i := range l {
		l[i] = sized(block(inset), n-i)
	}
	return l
}

// places are those of l, some beside it, and odds.
func places(l []api.Node) []int {
	all := odds()
	for at := -3; at < len(l)+4; at++ {
		all = append(all, at)
	}
	return all
}

// TestExamples: P8.1, P8.2 and P8.3, the chapter's examples.
func TestExamples(t *testing.T) {
	l := of(t, "[i5 (10 2 30)[i60 {3 4}]]{1 1}")
	for at, want := range map[int]int{0: -1, 1: 0, 2: 0, 3: 2, 4: -1, 9: -1} {
		if p := tree.Parent(l, at); p != want {
			t.Errorf("Parent of %d: %d, not %d", at, p, want)
		}
	}
	if a := tree.Above(l, 3); !slices.Equal(a, []int{2, 0}) {
		t.Errorf("Above 3: %v", a)
	}
	if k := tree.Kids(l, 0); !slices.Equal(k, []int{1, 2}) {
		t.Errorf("Kids of 0: %v", k)
	}
	if k := tree.Kids(l, -1); !slices.Equal(k, []int{0, 4}) {
		t.Errorf("Kids of -1: %v", k)
	}
	if !tree.Holds(l, 0, 3) || tree.Holds(l, 3, 0) || !tree.Holds(l, 2, 2) {
		t.Error("Holds")
	}
	want := []api.Room{{X: 0, W: 100}, {X: 5, W: 90}, {X: 5, W: 90}, {X: 65, W: 1}, {X: 0, W: 100}}
	if r := tree.Rooms(l, 100); !slices.Equal(r, want) {
		t.Errorf("Rooms: %v, not %v", r, want)
	}
}

// asked holds all answers of f's nodes against the chapter's words.
func asked(t *testing.T, f *forest) {
	t.Helper()
	l := f.l
	for _, a := range places(l) {
		if p, want := tree.Parent(l, a), f.parent(a); p != want {
			t.Fatalf("Parent(%v, %d): %d, not %d", l, a, p, want)
		}
		if above, want := tree.Above(l, a), f.above(a); !slices.Equal(above, want) {
			t.Fatalf("Above(%v, %d): %v, not %v", l, a, above, want)
		}
		if kids, want := tree.Kids(l, a), f.kids(a); !slices.Equal(kids, want) {
			t.Fatalf("Kids(%v, %d): %v, not %v", l, a, kids, want)
		}
		for b := -2; b < len(l)+3; b++ {
			if holds, want := tree.Holds(l, a, b), f.holds(a, b); holds != want {
				t.Fatalf("Holds(%v, %d, %d): %v", l, a, b, holds)
			}
			if holds, want := tree.Holds(l, b, a), f.holds(b, a); holds != want {
				t.Fatalf("Holds(%v, %d, %d): %v", l, b, a, holds)
			}
		}
	}
}

// roomy holds the rooms of f's nodes on the widths w against the chapter's words.
func roomy(t *testing.T, f *forest, w ...int) {
	t.Helper()
	for _, w := range w {
		if rooms, want := tree.Rooms(f.l, w), f.rooms(w); !slices.Equal(rooms, want) {
			t.Fatalf("Rooms(%v, %d): %v, not %v", f.l, w, rooms, want)
		}
	}
}

// forests hands out all of up to long nodes, of the blocks and of the others.
func forests(long int, blocks, others []api.Node, yield func(f *forest)) {
	var grow func(f *forest)
	grow = func(f *forest) {
		if len(f.open) > 0 {
			g := f.copied()
			g.end()
			grow(g)
		} else {
			yield(f)
		}
		if len(f.l) == long {
			return
		}
		for _, n := range blocks {
			g := f.copied()
			g.begin(n)
			grow(g)
		}
		for _, n := range others {
			g := f.copied()
			g.put(n)
			grow(g)
		}
	}
	grow(new(forest))
}

// TestForests: P8.1 and P8.2, of all shapes of up to six nodes, at all places, there or not.
func TestForests(t *testing.T) {
	many := 0
	forests(6, []api.Node{block(0)}, []api.Node{box()}, func(f *forest) {
		many++
		asked(t, f)
	})
	if many < 2000 {
		t.Errorf("only %d shapes", many)
	}
}

// TestKinds: P8.1 and P8.2, of nodes of all kinds, in all short rows.
func TestKinds(t *testing.T) {
	forests(4, []api.Node{block(3)}, []api.Node{text(), box(), float(api.SideLeft), float(api.SideRight)}, func(f *forest) {
		asked(t, f)
		roomy(t, f, 1, 7, 100)
	})
}

// TestRooms: P8.3, of all shapes of up to four nodes with all insets of a few, on many widths.
func TestRooms(t *testing.T) {
	blocks := []api.Node{block(0), block(1), block(5), block(most)}
	forests(4, blocks, []api.Node{text()}, func(f *forest) { roomy(t, f, 1, 2, 3, 4, 11, 12, 13, most-1, most) })
	forests(3, blocks, []api.Node{text(), box(), float(1)}, func(f *forest) { roomy(t, f, widths()...) })
}

// TestInsets: P8.3, at the edges: 1 wide at least, and x cut off at Max.
func TestInsets(t *testing.T) {
	for _, c := range []struct {
		s    string
		w    int
		want api.Room // of the innermost node
	}{
		{"[{1 1}]", 9, api.Room{X: 0, W: 9}},
		{"[i4{1 1}]", 9, api.Room{X: 4, W: 1}},
		{"[i4{1 1}]", 10, api.Room{X: 4, W: 2}},
		{"[i4{1 1}]", 8, api.Room{X: 4, W: 1}},
		{"[i5{1 1}]", 9, api.Room{X: 5, W: 1}},
		{"[i5{1 1}]", 1, api.Room{X: 5, W: 1}},
		{"[i5[i1[i2{1 1}]]]", 20, api.Room{X: 8, W: 4}},
		{"[i5[i5[i2{1 1}]]]", 20, api.Room{X: 12, W: 1}},
		{"[i1099511627776{1 1}]", 1, api.Room{X: most, W: 1}},
		{"[i1099511627776{1 1}]", most, api.Room{X: most, W: 1}},
		{"[i1099511627775{1 1}]", most, api.Room{X: most - 1, W: 1}},
		{"[i1099511627775[i1{1 1}]]", most, api.Room{X: most, W: 1}},
		{"[i1099511627775[i2{1 1}]]", most, api.Room{X: most, W: 1}},
		{"[i1099511627776[i1099511627776{1 1}]]", 7, api.Room{X: most, W: 1}},
		{"[i549755813888[i549755813887{1 1}]]", 7, api.Room{X: most - 1, W: 1}},
		{"[i549755813888[i549755813888{1 1}]]", 7, api.Room{X: most, W: 1}},
		{"[i549755813888[i549755813889{1 1}]]", 7, api.Room{X: most, W: 1}},
		{"[i549755813887{1 1}]", most, api.Room{X: most/2 - 1, W: 2}},
		{"[i549755813888{1 1}]", most, api.Room{X: most / 2, W: 1}},
		{"[i549755813887[i1{1 1}]]", most, api.Room{X: most / 2, W: 1}},
		{"[i1099511627776[[[{1 1}]]]]", 9, api.Room{X: most, W: 1}},
	} {
		l := of(t, c.s)
		if r := tree.Rooms(l, c.w); r[len(l)-1] != c.want {
			t.Errorf("Rooms of %q, %d: %v, not %v", c.s, c.w, r, c.want)
		}
	}
}

// TestInsetAlone: P8.3: no other number of a node makes rooms narrower; a block's own inset doesn't, either.
func TestInsetAlone(t *testing.T) {
	l := of(t, "[m9n9p9q9o9w9h9B4A4I1c3 i2 (9 9 9 9)[i7]{9 9}<L 9 9>]<R 9 9>(9 9 9)[i8]")
	want := []api.Room{{X: 0, W: 30}, {X: 2, W: 26}, {X: 2, W: 26}, {X: 2, W: 26}, {X: 2, W: 26}, {X: 0, W: 30}, {X: 0, W: 30}, {X: 0, W: 30}}
	if r := tree.Rooms(l, 30); !slices.Equal(r, want) {
		t.Errorf("%v, not %v", r, want)
	}
}

// TestWidths: P8.3: on a width beyond 1 to Max there are no rooms.
func TestWidths(t *testing.T) {
	l := of(t, "[i5 (10 2 30)[i60 {3 4}]]{1 1}")
	for _, w := range odds() {
		rooms := tree.Rooms(l, w)
		if w < 1 || w > most {
			if len(rooms) > 0 {
				t.Errorf("%d: %v", w, rooms)
			}
			continue
		}
		if len(rooms) != len(l) || rooms[0] != (api.Room{X: 0, W: w}) || rooms[4] != rooms[0] {
			t.Errorf("%d: %v", w, rooms)
		}
	}
}

// TestEmpty: P8.1 to P8.3: a document may have no node.
func TestEmpty(t *testing.T) {
	for _, l := range [][]api.Node{nil, {}} {
		none(t, l)
	}
}

// none holds all answers of l, in which there is no node that may be asked, against P8.4.
func none(t *testing.T, l []api.Node) {
	t.Helper()
	for _, a := range places(l) {
		if p := tree.Parent(l, a); p != -1 {
			t.Fatalf("Parent(%v, %d): %d", l, a, p)
		}
		if above, kids := tree.Above(l, a), tree.Kids(l, a); len(above)+len(kids) > 0 {
			t.Fatalf("Above and Kids(%v, %d): %v, %v", l, a, above, kids)
		}
		for b := -1; b <= len(l); b++ {
			if tree.Holds(l, a, b) || tree.Holds(l, b, a) {
				t.Fatalf("Holds(%v, %d, %d): true", l, a, b)
			}
		}
		if rooms := tree.Rooms(l, a); len(rooms) > 0 {
			t.Fatalf("Rooms(%v, %d): %v", l, a, rooms)
		}
	}
}

// rows hands out all rows of long nodes of the kinds l, with all Sizes from least to most.
func rows(long, least, most int, l []api.Node, yield func(l []api.Node)) {
	made := make([]api.Node, long)
	var put func(at int)
	put = func(at int) {
		if at == long {
			yield(made)
			return
		}
		for _, n := range l {
			for size := least; size <= most; size++ {
				made[at] = sized(n, size)
				put(at + 1)
			}
		}
	}
	put(0)
}

// TestNone: P8.4, of all short rows of nodes that are no document's.
func TestNone(t *testing.T) {
	many := 0
	check := func(l []api.Node) {
		if !valid.Is(l) {
			many++
			none(t, l)
		}
	}
	for long := range 3 {
		rows(long, -1, 4, []api.Node{block(5), text(), box(), float(1), {}}, check)
	}
	rows(3, 0, 4, []api.Node{block(1), box()}, check)
	rows(4, 1, 5, []api.Node{block(1)}, check)
	if many < 1000 {
		t.Errorf("only %d rows", many)
	}
}

// TestWrong: P8.4: one number that may not be is enough, wherever it stands.
func TestWrong(t *testing.T) {
	for _, wrong := range []api.Node{
		{}, sized(box(), 0), sized(box(), 2), sized(block(0), 0), sized(block(0), 1<<62), block(-1), block(most + 1),
		{Kind: api.KindText, Size: 1, Line: 1}, {Kind: api.KindMono, Size: 1, W: 1}, {Kind: 9, Size: 1},
	} {
		whole := of(t, "[i5 (10 2 30)[i60 {3 4}]]{1 1}")
		none(t, []api.Node{wrong})
		none(t, append(slices.Clone(whole), wrong))
		none(t, append([]api.Node{wrong}, whole...))
		none(t, slices.Replace(slices.Clone(whole), 3, 4, wrong))
		none(t, slices.Replace(slices.Clone(whole), 1, 2, wrong))
	}
	// Sizes that were those of a greater whole.
	whole := of(t, "[[{1 1}{1 1}]{1 1}]{1 1}")
	for _, n := range []int{1, 2, 3, 4} {
		none(t, whole[:n])
	}
	none(t, slices.Concat(whole[1:4], whole[:2]))
}

// TestBeyondLimits: P8.1 to P8.3 are promised of documents beyond the limits, too.
func TestBeyondLimits(t *testing.T) {
	f := new(forest)
	for range 40 {
		f.begin(block(1))
		f.put(box())
	}
	for range 40 {
		f.put(text())
		f.end()
	}
	asked(t, f)
	roomy(t, f, widths()...)
	wide := slices.Repeat([]api.Node{sized(box(), 1)}, 5000)
	wide[0].H, wide[1].H = most, most
	if k := tree.Kids(wide, -1); len(k) != 5000 || k[4999] != 4999 {
		t.Errorf("%d kids", len(k))
	}
	if r := tree.Rooms(wide, 7); len(r) != 5000 || r[4999] != (api.Room{W: 7}) {
		t.Errorf("%d rooms", len(r))
	}
}

// TestDeep: P8.1 to P8.3 come to their end, however deep nodes are.
func TestDeep(t *testing.T) {
	const many = 1 << 17
	l := deep(many, 1)
	if p := tree.Parent(l, many-1); p != many-2 {
		t.Errorf("Parent: %d", p)
	}
	above := tree.Above(l, many-1)
	if len(above) != many-1 || above[0] != many-2 || above[many-2] != 0 {
		t.Errorf("Above: %d", len(above))
	}
	if k := tree.Kids(l, many-2); !slices.Equal(k, []int{many - 1}) {
		t.Errorf("Kids: %v", k)
	}
	if !tree.Holds(l, 0, many-1) || tree.Holds(l, many-1, 0) {
		t.Error("Holds")
	}
	rooms := tree.Rooms(l, 1<<17)
	if len(rooms) != many || rooms[1<<16-1] != (api.Room{X: 1<<16 - 1, W: 2}) || rooms[1<<16] != (api.Room{X: 1 << 16, W: 1}) || rooms[many-1] != (api.Room{X: many - 1, W: 1}) {
		t.Errorf("Rooms: %d", len(rooms))
	}
	if rooms := tree.Rooms(deep(1<<10, 1<<31), most); rooms[1<<9+1] != (api.Room{X: most, W: 1}) || rooms[1<<10-1] != rooms[1<<9+1] {
		t.Errorf("Rooms: %v", rooms)
	}
}

// TestOnceEach: P8.5, told of the answers alone.
func TestOnceEach(t *testing.T) {
	forests(6, []api.Node{block(2)}, []api.Node{text()}, func(f *forest) {
		l, parents := f.l, make([]int, len(f.l))
		kid := make([]int, len(l))
		for at := -2; at < len(l)+2; at++ {
			kids := tree.Kids(l, at)
			if !slices.IsSorted(kids) {
				t.Fatalf("Kids(%v, %d): %v", l, at, kids)
			}
			for _, k := range kids {
				kid[k]++
				parents[k] = at
			}
		}
		for at := range l {
			if kid[at] != 1 || parents[at] != tree.Parent(l, at) {
				t.Fatalf("%v: %d is a kid %d times, of %d", l, at, kid[at], parents[at])
			}
			above := tree.Above(l, at)
			for a := range l {
				if tree.Holds(l, a, at) != (a == at || slices.Contains(above, a)) {
					t.Fatalf("Holds(%v, %d, %d), but above are %v", l, a, at, above)
				}
			}
		}
	})
}

// TestNarrower: P8.6, told of the answers alone.
func TestNarrower(t *testing.T) {
	forests(5, []api.Node{block(0), block(2), block(most / 2)}, []api.Node{float(2)}, func(f *forest) {
		for _, w := range []int{1, 4, 5, 9, most} {
			rooms := tree.Rooms(f.l, w)
			for at, r := range rooms {
				p := tree.Parent(f.l, at)
				if p == -1 {
					continue
				}
				out, i := rooms[p], f.l[p].Style.Inset
				if r.W < 1 || r.W > out.W {
					t.Fatalf("Rooms(%v, %d): %v", f.l, w, rooms)
				}
				if out.W-i-i >= 1 && (r.X < out.X || r.X+r.W > out.X+out.W) {
					t.Fatalf("Rooms(%v, %d): %v", f.l, w, rooms)
				}
			}
		}
	})
}

// copied is l, with words and the room behind their ends.
func copied(l []api.Node) []api.Node {
	l = slices.Clone(l)
	for i, n := range l {
		l[i].Words = slices.Clone(n.Words[:cap(n.Words)])
	}
	return l
}

// same tells whether a and b are the same, words and all.
func same(a, b []api.Node) bool {
	return slices.EqualFunc(a, b, func(x, y api.Node) bool {
		return read.Same([]api.Node{x}, []api.Node{y})
	})
}

// TestStays: P8.4: what is handed in stays, and the room behind its end, too; what is answered is new memory.
func TestStays(t *testing.T) {
	for _, s := range []string{"", "{1 1}", "[i5 (10 2 30)[i60 {3 4}]]{1 1}", "[i1[i2[i3[]<L 1 1>]](1 1 1 1)][]"} {
		whole := append(of(t, s), sized(block(7), 9), box())
		for i := range whole {
			whole[i].Words = append(make([]int, 0, 8), whole[i].Words...)
			rest := whole[i].Words[len(whole[i].Words):8]
			for j := range rest {
				rest[j] = 9
			}
		}
		l, was := whole[:len(whole)-2], copied(whole)
		for at := -2; at < len(l)+2; at++ {
			stays(t, func() []int { return tree.Above(l, at) })
			stays(t, func() []int { return tree.Kids(l, at) })
			tree.Parent(l, at)
			tree.Holds(l, at, len(l)-1)
			tree.Holds(whole, at, 0)
			tree.Kids(whole, at)
		}
		stays(t, func() []api.Room { return tree.Rooms(l, 50) })
		tree.Rooms(whole, 50)
		if !same(copied(whole), was) {
			t.Errorf("%q: %v, not %v", s, whole, was)
		}
	}
}

// stays holds that what f answers is the same once more, whatever becomes of what it answered.
func stays[T comparable](t *testing.T, f func() []T) {
	t.Helper()
	first, second := f(), f()
	kept := slices.Clone(first)
	clear(first[:cap(first)])
	if !slices.Equal(second, kept) || !slices.Equal(f(), kept) {
		t.Errorf("%v, %v, not %v", second, f(), kept)
	}
}
