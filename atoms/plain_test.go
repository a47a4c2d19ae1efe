package atoms_test

import (
	"math"
	"slices"
	"strings"
	"testing"

	"gatefold/api"
	"gatefold/flow"
	"gatefold/read"
)

// far is the greatest number of which the chapter says anything.
const far = 1 << 50

// of is the nodes that s is read as.
func of(t *testing.T, s string) []api.Node {
	t.Helper()
	l, at, e := read.Of(s)
	if e != api.OK {
		t.Fatalf("%q is no document, at %d", s, at)
	}
	return l
}

// galley is what s is laid out as on that width.
func galley(t *testing.T, s string, width int) (nodes []api.Node, g api.Galley) {
	t.Helper()
	nodes = of(t, s)
	g, e := flow.Of(nodes, width)
	if e != api.OK {
		t.Fatalf("%q has no galley, %d wide: %d", s, width, e)
	}
	return nodes, g
}

// atom is one that stands at y, high high.
func atom(y, high int) api.Atom {
	return api.Atom{Kind: api.AtomMono, X: 3, Y: y, W: 7, H: high}
}

// bottom is, by the chapter's words, the Y and the H of the atom k together.
func bottom(l []api.Atom, k int) int {
	for at, a := range l {
		if at == k {
			return a.Y + a.H
		}
	}
	return 0
}

// gap is, by the chapter's words, the Y of the atom k less the bottom of the atom ahead; of the first one its Y.
func gap(l []api.Atom, k int) int {
	ahead := 0
	for at, a := range l {
		if at == k {
			return a.Y - ahead
		}
		ahead = a.Y + a.H
	}
	return 0
}

// offset is, by the chapter's words, the Y of the atom k less that of the atom i.
func offset(l []api.Atom, i, k int) int {
	for at, a := range l {
		for other, b := range l {
			if at == k && other == i {
				return a.Y - b.Y
			}
		}
	}
	return 0
}

// high is, by the chapter's words, the last one's bottom less the first one's Y, of the atoms from i on, up to k.
func high(l []api.Atom, i, k int) int {
	var some []api.Atom
	for at, a := range l {
		if i <= at && at < k {
			some = append(some, a)
		}
	}
	if i < 0 || k > len(l) || len(some) == 0 {
		return 0
	}
	last := some[len(some)-1]
	return last.Y + last.H - some[0].Y
}

// parent is the innermost block around the node at at; -1, if there is none.
func parent(nodes []api.Node, at int) int {
	for b := at - 1; b >= 0; b-- {
		if b+nodes[b].Size > at {
			return b
		}
	}
	return -1
}

// in tells whether there are both nodes, and b is a, or a is around it, however far.
func in(nodes []api.Node, a, b int) bool {
	if a < 0 || a >= len(nodes) || b < 0 || b >= len(nodes) {
		return false
	}
	for b > a {
		b = parent(nodes, b)
	}
	return b == a
}

// within is, by the chapter's words, the places of the first one of a node's atoms, and behind the last one.
func within(nodes []api.Node, l []api.Atom, node int) (from, to int) {
	for k, a := range l {
		if in(nodes, node, a.Node) {
			if to == 0 {
				from = k
			}
			to = k + 1
		}
	}
	return from, to
}

// rows hands out all rows of up to many of these.
func rows[T any](many int, of []T, yield func(l []T)) {
	var grow func(l []T)
	grow = func(l []T) {
		yield(l)
		if len(l) < many {
			for _, x := range of {
				grow(append(slices.Clone(l), x))
			}
		}
	}
	grow(nil)
}

// scripts hands out all documents of up to many of these parts, each of which closes a block that is open, opens one, or does neither; what is open in the end is closed.
func scripts(many int, parts []string, yield func(s string)) {
	rows(many, parts, func(l []string) {
		open := 0
		for _, p := range l {
			open += strings.Count(p, "[") - strings.Count(p, "]")
			if open < 0 {
				return
			}
		}
		yield(strings.Join(l, "") + strings.Repeat("]", open))
	})
}

// galleys hands out all short documents, and their galleys.
func galleys(t *testing.T, yield func(s string, nodes []api.Node, g api.Galley)) {
	t.Helper()
	parts := []string{"{2 3}", "(4 1 2 2 2 2)", "<L2 5>", "<R3 1>", "[m2q1", "[n3c3", "]"}
	scripts(5, parts, func(s string) {
		nodes, g := galley(t, s, 5)
		yield(s, nodes, g)
	})
}

// odds are numbers around all bounds of the chapter, and of the machine.
func odds() []int {
	return []int{
		math.MinInt, math.MinInt + 1, -1 << 62, -far - 1, -far, -100, -2, -1,
		0, 1, 2, 3, 4, 5, 100, far - 1, far, far + 1, 1 << 62, math.MaxInt - 1, math.MaxInt,
	}
}
