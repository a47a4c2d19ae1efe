package atoms_test

import (
	"math"
	"slices"
	"testing"

	"gatefold/api"
	"gatefold/atoms"
	"gatefold/read"
	"gatefold/tree"
	"gatefold/valid"
)

// TestExamples: P15.1, P15.2 and P15.3, the chapter's examples.
func TestExamples(t *testing.T) {
	nodes, g := galley(t, "[m5 n7(10 2 30 30 50)][m3{20 8}]", 100)
	l := g.Atoms
	if b := atoms.Bottom(l, 1); b != 25 {
		t.Errorf("Bottom of 1: %d", b)
	}
	for k, want := range []int{5, 0, 7} {
		if n := atoms.Gap(l, k); n != want {
			t.Errorf("Gap of %d: %d, not %d", k, n, want)
		}
	}
	if n := atoms.Offset(l, 0, 2); n != 27 {
		t.Errorf("Offset of 2 from 0: %d", n)
	}
	if a, b := atoms.High(l, 0, 2), atoms.High(l, 1, 3); a != 20 || b != 25 {
		t.Errorf("High: %d, %d", a, b)
	}
	for node, want := range map[int][2]int{0: {0, 2}, 2: {2, 3}, 4: {0, 0}} {
		holds(t, nodes, l, node, want[0], want[1])
	}
}

// holds holds which atoms a node has against what is asked.
func holds(t *testing.T, nodes []api.Node, l []api.Atom, node, from, to int) {
	t.Helper()
	if a, b := atoms.Within(nodes, l, node); a != from || b != to {
		t.Fatalf("Within(%v, %v, %d): %d, %d, not %d, %d", nodes, l, node, a, b, from, to)
	}
}

// asked holds all that is told of l's atoms at i and k against the chapter's words.
func asked(t *testing.T, l []api.Atom, i, k int) {
	t.Helper()
	if n, want := atoms.Bottom(l, k), bottom(l, k); n != want {
		t.Fatalf("Bottom(%v, %d): %d, not %d", l, k, n, want)
	}
	if n, want := atoms.Gap(l, k), gap(l, k); n != want {
		t.Fatalf("Gap(%v, %d): %d, not %d", l, k, n, want)
	}
	if n, want := atoms.Offset(l, i, k), offset(l, i, k); n != want {
		t.Fatalf("Offset(%v, %d, %d): %d, not %d", l, i, k, n, want)
	}
	if n, want := atoms.High(l, i, k), high(l, i, k); n != want {
		t.Fatalf("High(%v, %d, %d): %d, not %d", l, i, k, n, want)
	}
}

// all holds all that is told of l's atoms against the chapter's words, at places that are there, and some beside these.
func all(t *testing.T, l []api.Atom) {
	t.Helper()
	for i := -2; i < len(l)+3; i++ {
		for k := -2; k < len(l)+3; k++ {
			asked(t, l, i, k)
		}
	}
}

// TestNumbers: P15.1 and P15.2, of all short rows of atoms of a few: apart, one right below the other, overlapping, one above the other, with no height, and above 0.
func TestNumbers(t *testing.T) {
	few := []api.Atom{atom(0, 0), atom(0, 4), atom(4, 3), atom(7, 0), atom(9, 10), atom(-6, 2), atom(5, -3)}
	rows(4, few, func(l []api.Atom) { all(t, l) })
}

// TestFar: P15.1, P15.2 and R6, of the last numbers of which the chapter says anything.
func TestFar(t *testing.T) {
	few := []api.Atom{atom(far, far), atom(-far, -far), atom(far, -far), atom(-far, far), atom(far-1, 1), atom(0, 0)}
	rows(3, few, func(l []api.Atom) { all(t, l) })
	l := []api.Atom{atom(-far, 0), atom(far, far)}
	if b, n, o, h := atoms.Bottom(l, 1), atoms.Gap(l, 1), atoms.Offset(l, 0, 1), atoms.High(l, 0, 2); b != 1<<51 || n != 1<<51 || o != 1<<51 || h != 3<<50 {
		t.Errorf("%d, %d, %d, %d", b, n, o, h)
	}
}

// TestNone: P15.1 and P15.2: where there is no atom, all is 0, however far off it is.
func TestNone(t *testing.T) {
	for _, l := range [][]api.Atom{nil, {}, {atom(7, 2)}, {atom(7, 2), atom(11, 5)}, {atom(7, 2), atom(11, 5), atom(30, 4)}} {
		for _, i := range odds() {
			for _, k := range odds() {
				asked(t, l, i, k)
			}
		}
	}
}

// TestHighEdges: P15.2, at the edges: one atom, all of them, one too many, none.
func TestHighEdges(t *testing.T) {
	l := []api.Atom{atom(5, 10), atom(15, 10), atom(32, 8)}
	for _, c := range [][3]int{
		{0, 1, 10}, {0, 3, 35}, {2, 3, 8},
		{0, 4, 0}, {2, 4, 0}, {3, 4, 0}, {3, 3, 0},
		{0, 0, 0}, {1, 1, 0}, {2, 1, 0}, {3, 1, 0},
		{-1, 1, 0}, {-1, 0, 0}, {-1, 3, 0},
	} {
		if n := atoms.High(l, c[0], c[1]); n != c[2] {
			t.Errorf("from %d, to %d: %d, not %d", c[0], c[1], n, c[2])
		}
	}
}

// TestGalleys: P15.1, P15.2 and P15.3, of the galleys of all short documents.
func TestGalleys(t *testing.T) {
	galleys(t, func(s string, nodes []api.Node, g api.Galley) {
		all(t, g.Atoms)
		for node := -2; node < len(nodes)+3; node++ {
			from, to := within(nodes, g.Atoms, node)
			holds(t, nodes, g.Atoms, node, from, to)
		}
	})
}

// TestWithin: P15.3, of all short documents, and all short rows of atoms whose Nodes never fall, whichever of them have some.
func TestWithin(t *testing.T) {
	many := 0
	scripts(5, []string{"{1 1}", "[", "]"}, func(s string) {
		nodes := of(t, s)
		never(t, len(nodes), 4, func(l []api.Atom) {
			many++
			for node := -2; node < len(nodes)+3; node++ {
				from, to := within(nodes, l, node)
				holds(t, nodes, l, node, from, to)
			}
		})
	})
	if many < 1000 {
		t.Errorf("only %d rows", many)
	}
}

// never hands out all rows of up to long atoms whose Nodes never fall, and are those of many nodes, or one beside these.
func never(t *testing.T, many, long int, yield func(l []api.Atom)) {
	t.Helper()
	var few []api.Atom
	for node := -1; node <= many; node++ {
		few = append(few, api.Atom{Kind: api.AtomMono, Node: node, Y: 9 - node})
	}
	rows(long, few, func(l []api.Atom) {
		if slices.IsSortedFunc(l, func(a, b api.Atom) int { return a.Node - b.Node }) {
			yield(l)
		}
	})
}

// TestWithinEdges: P15.3, at the edges: nodes that have none, among those that do, texts of many lines, and blocks that end together.
func TestWithinEdges(t *testing.T) {
	nodes, g := galley(t, "[]<L1 1>[[(1 0 5 5 5)]<R1 1>[{1 1}[]]]{1 1}", 7)
	for node, want := range [][2]int{{0, 0}, {0, 0}, {0, 4}, {0, 3}, {0, 3}, {0, 0}, {3, 4}, {3, 4}, {0, 0}, {4, 5}, {0, 0}} {
		holds(t, nodes, g.Atoms, node, want[0], want[1])
	}
}

// TestWithinNone: P15.3: where there is no node, there are no atoms of it; nor are there any where there is no atom.
func TestWithinNone(t *testing.T) {
	nodes, g := galley(t, "[{1 1}{1 1}]", 7)
	// Atoms of no node are nobody's.
	l := append([]api.Atom{{Node: -1}}, append(g.Atoms, api.Atom{Node: 3})...)
	for _, node := range odds() {
		from, to := within(nodes, l, node)
		holds(t, nodes, l, node, from, to)
		if node < 0 || node > 2 {
			holds(t, nodes, l, node, 0, 0)
		}
		holds(t, nodes, nil, node, 0, 0)
		holds(t, nodes, l[:0], node, 0, 0)
		holds(t, nil, l, node, 0, 0)
		holds(t, nodes[:0], l, node, 0, 0)
	}
}

// floats are those with these anchors, each with a node of its own.
func floats(anchors ...int) []api.Floater {
	var l []api.Floater
	for i, a := range anchors {
		l = append(l, api.Floater{Node: i, Side: api.SideLeft, Anchor: a, X: 2, Y: 7 - i, W: 3, H: 4})
	}
	return l
}

// calls holds the nodes of the floats of l that are anchored from from on, below to, against what is asked, and that they are as they were.
func calls(t *testing.T, l []api.Floater, from, to int, want ...int) {
	t.Helper()
	var floats []api.Floater
	for _, node := range want {
		floats = append(floats, l[node])
	}
	if got := atoms.Anchored(l, from, to); !slices.Equal(got, floats) {
		t.Fatalf("Anchored(%v, %d, %d): %v, not %v", l, from, to, got, floats)
	}
}

// TestAnchored: P15.4, of all short rows of floats, in whichever order their anchors are, and from and to all places around these.
func TestAnchored(t *testing.T) {
	rows(5, []int{0, 1, 2, 4}, func(anchors []int) {
		l := floats(anchors...)
		for from := -1; from < 7; from++ {
			for to := -1; to < 7; to++ {
				var want []int
				for node, a := range anchors {
					if a >= from && a < to {
						want = append(want, node)
					}
				}
				calls(t, l, from, to, want...)
			}
		}
	})
}

// TestAnchoredEdges: P15.4, at the edges: the one at from is told, the one at to is not; none, if to is not above from; anchors that rise not.
func TestAnchoredEdges(t *testing.T) {
	l := floats(0, 2, 2, 5, 1)
	calls(t, l, 0, 6, 0, 1, 2, 3, 4)
	calls(t, l, 2, 5, 1, 2)
	calls(t, l, 2, 6, 1, 2, 3)
	calls(t, l, 1, 3, 1, 2, 4)
	calls(t, l, 5, 6, 3)
	calls(t, l, 2, 2)
	calls(t, l, 5, 0)
	calls(t, l, 3, 5)
	calls(t, l, 6, math.MaxInt)
	calls(t, l, math.MinInt, 0)
	calls(t, l, math.MinInt, math.MaxInt, 0, 1, 2, 3, 4)
	calls(t, l, math.MaxInt, math.MinInt)
	calls(t, floats(-far, 0, far), -far, far, 0, 1)
	calls(t, floats(-far, 0, far), 1-far, far+1, 1, 2)
	calls(t, floats(math.MinInt, math.MaxInt), math.MinInt, math.MaxInt, 0)
	calls(t, nil, 0, 9)
	calls(t, []api.Floater{}, 0, 9)
}

// TestAnchoredGalley: P15.4, of floats as they are in a galley.
func TestAnchoredGalley(t *testing.T) {
	_, g := galley(t, "<L1 1>{1 1}<L1 1>(1 0 5 5)<R1 1>{1 1}<R1 1>", 9)
	calls(t, g.Floats, 0, 1, 0)
	calls(t, g.Floats, 1, 3, 1)
	calls(t, g.Floats, 1, 4, 1, 2, 3)
	calls(t, g.Floats, 0, len(g.Atoms), 0, 1, 2, 3)
}

// TestStays: P15.5 and R3: neither what is handed in nor the room behind its ends changes, and what stands in that room doesn't count.
func TestStays(t *testing.T) {
	const s = "[<L1 1>{1 1}(1 0 5 5)]<R1 1>{1 1}{1 1}"
	nodes, g := galley(t, s, 7)
	l, stand := g.Atoms, g.Floats
	someNodes, some, few := nodes[:5], l[:4], stand[:1]
	wasAtoms, wasFloats := slices.Clone(l), slices.Clone(stand)
	for i := -2; i < 9; i++ {
		for k := -2; k < 9; k++ {
			asked(t, some, i, k)
			atoms.Anchored(few, i, k)
		}
		from, to := within(someNodes, some, i)
		holds(t, someNodes, some, i, from, to)
	}
	calls(t, few, 0, 9, 0)
	calls(t, few[:0], 0, 9)
	if !read.Same(nodes, of(t, s)) || !slices.Equal(l, wasAtoms) || !slices.Equal(stand, wasFloats) {
		t.Errorf("now %v, %v, %v", nodes, l, stand)
	}
}

// TestNew: P15.5 and R3: the floats that are answered are new memory, each time, all of them or some, and behind their ends, too.
func TestNew(t *testing.T) {
	l := floats(0, 1, 2, 3)
	was := slices.Clone(l)
	for from := range 5 {
		for to := range 6 {
			a, b := atoms.Anchored(l, from, to), atoms.Anchored(l, from, to)
			want := slices.Clone(b)
			clear(a[:cap(a)])
			if !slices.Equal(b, want) || !slices.Equal(l, was) {
				t.Fatalf("%d, %d: an answer shares memory: now %v, %v", from, to, b, l)
			}
			clear(l)
			if !slices.Equal(b, want) {
				t.Fatalf("%d, %d: an answer changed with the floats: now %v", from, to, b)
			}
			copy(l, was)
		}
	}
}

// TestSame: R5: what was asked ahead doesn't show.
func TestSame(t *testing.T) {
	nodes, g := galley(t, "[m5 n7(10 2 30 30 50)]<L1 1>[m3{20 8}]", 100)
	for _, odd := range odds() {
		atoms.Anchored(floats(odd), odd, odd)
		atoms.Within(nodes[1:], []api.Atom{{Node: odd}}, odd)
		atoms.High([]api.Atom{atom(odd, odd)}, odd, odd)
		all(t, g.Atoms)
		holds(t, nodes, g.Atoms, 0, 0, 2)
		calls(t, g.Floats, 2, 3, 0)
	}
}

// TestSums: P15.6, told of the answers alone: offsets add up; gaps and heights of all atoms make the last one's bottom.
func TestSums(t *testing.T) {
	sums := func(l []api.Atom) {
		sum := 0
		for k, a := range l {
			sum += atoms.Gap(l, k) + a.H
			if sum != atoms.Bottom(l, k) || atoms.High(l, k, k+1) != a.H {
				t.Fatalf("%v: up to %d it is %d", l, k, sum)
			}
			for i := range l {
				for j := range l {
					if atoms.Offset(l, i, j)+atoms.Offset(l, j, k) != atoms.Offset(l, i, k) {
						t.Fatalf("%v: from %d to %d to %d", l, i, j, k)
					}
				}
			}
		}
	}
	rows(4, []api.Atom{atom(0, 4), atom(4, 3), atom(9, 0), atom(-far, far), atom(far, far)}, sums)
	galleys(t, func(s string, nodes []api.Node, g api.Galley) { sums(g.Atoms) })
}

// TestParts: P15.7, told of the answers alone: a node's atoms are those of its kids, one behind the other; each atom is one of its node's.
func TestParts(t *testing.T) {
	galleys(t, func(s string, nodes []api.Node, g api.Galley) {
		for k, a := range g.Atoms {
			if from, to := atoms.Within(nodes, g.Atoms, a.Node); k < from || k >= to {
				t.Fatalf("%s: %d is an atom of %d, which has those from %d to %d", s, k, a.Node, from, to)
			}
		}
		for node, n := range nodes {
			if n.Kind == api.KindBlock {
				from, to := kids(t, s, nodes, g.Atoms, node)
				holds(t, nodes, g.Atoms, node, from, to)
			}
		}
		if from, to := kids(t, s, nodes, g.Atoms, -1); from != 0 || to != len(g.Atoms) {
			t.Fatalf("%s: all nodes have the atoms from %d to %d", s, from, to)
		}
	})
}

// kids is where the atoms of the kids of a node begin and end, and holds that they are one behind the other.
func kids(t *testing.T, s string, nodes []api.Node, l []api.Atom, node int) (from, to int) {
	t.Helper()
	for _, kid := range tree.Kids(nodes, node) {
		a, b := atoms.Within(nodes, l, kid)
		switch {
		case a == b:
		case from == to:
			from, to = a, b
		case a == to:
			to = b
		default:
			t.Fatalf("%s: the kid %d of %d has the atoms from %d to %d, behind %d", s, kid, node, a, b, to)
		}
	}
	return from, to
}

// TestMany: P15.1 to P15.4, of long rows.
func TestMany(t *testing.T) {
	const many = 1 << 16
	nodes := slices.Repeat(of(t, "[[]{1 1}{1 1}]"), many)
	var l []api.Atom
	for node, n := range nodes {
		if n.Kind == api.KindMono {
			k := len(l)
			l = append(l, api.Atom{Kind: api.AtomMono, Node: node, Y: 5 * k, W: 1, H: 3})
		}
	}
	for i := range many {
		holds(t, nodes, l, 4*i, 2*i, 2*i+2)
		holds(t, nodes, l, 4*i+1, 0, 0)
		holds(t, nodes, l, 4*i+2, 2*i, 2*i+1)
		holds(t, nodes, l, 4*i+3, 2*i+1, 2*i+2)
	}
	last := 2*many - 1
	if b, n, o, h := atoms.Bottom(l, last), atoms.Gap(l, last), atoms.Offset(l, 1, last), atoms.High(l, 0, last+1); b != 5*last+3 || n != 2 || o != 5*(last-1) || h != b {
		t.Errorf("%d, %d, %d, %d", b, n, o, h)
	}
	anchors := make([]int, many)
	for i := range anchors {
		anchors[i] = i / 2
	}
	got := atoms.Anchored(floats(anchors...), 5, many)
	if len(got) != many-10 || got[0].Node != 10 || got[many-11].Node != many-1 {
		t.Errorf("%d floats", len(got))
	}
}

// TestBeyond: R1: of numbers that are beyond the chapter's, rows of nodes that are no document's, and atoms whose Nodes fall, calls come to an end.
func TestBeyond(t *testing.T) {
	for _, a := range odds() {
		for _, b := range odds() {
			l := []api.Atom{{Node: a, Y: b, H: a}, {Node: b, Y: a, H: b}, {Node: a, Y: a, H: b}}
			nodes := []api.Node{{Kind: a, Size: b}, {Kind: b, Size: a}, {}}
			if valid.Is(nodes) {
				t.Fatalf("%v is a document's", nodes)
			}
			for _, k := range odds() {
				atoms.Bottom(l, k)
				atoms.Gap(l, k)
				atoms.Offset(l, 1, k)
				atoms.High(l, 1, k)
				atoms.Within(nodes, l, k)
				atoms.Anchored(floats(a, b, a), b, k)
			}
		}
	}
}

// TestFalls: P15.3 and R1: whatever the atoms' Nodes are, places that are answered are those of atoms.
func TestFalls(t *testing.T) {
	nodes := of(t, "[{1 1}[{1 1}]]{1 1}")
	rows(5, []api.Atom{{Node: 1}, {Node: 3}, {Node: 4}, {Node: -1}, {Node: math.MaxInt}}, func(l []api.Atom) {
		for node := range nodes {
			if from, to := atoms.Within(nodes, l, node); from < 0 || to > len(l) || from >= to && (from != 0 || to != 0) {
				t.Fatalf("Within(%v, %d): %d, %d", l, node, from, to)
			}
		}
	})
}
