package tree

import (
	"iter"

	"gatefold/api"
	"gatefold/valid"
)

// nodes are a document's, told by their places.
type nodes []api.Node

// many is how many there are.
func (l nodes) many() int { return len(l) }

// has tells whether there is a node at at.
func (l nodes) has(at int) bool { return at >= 0 && at < len(l) }

// end is where the node at at ends, with all within it.
func (l nodes) end(at int) int { return at + l[at].Size }

// inset is how much narrower the node at at makes the room of its kids, on each side.
func (l nodes) inset(at int) int { return l[at].Style.Inset }

// order is who stands in whom among nodes.
type order struct{ nodes }

// of is the order of l; of nodes that are no document's it has none, so that nothing is found there.
func of(l []api.Node) order {
	if !valid.Is(l) {
		return order{}
	}
	return order{l}
}

// holds tells whether b is a, or within it.
func (o order) holds(a, b int) bool {
	return o.has(a) && a <= b && b < o.end(a)
}

// above hands on the nodes above the one at at, the innermost first: all that hold it stand ahead of it, each ahead of those within.
func (o order) above(at int) iter.Seq[int] {
	return func(yield func(int) bool) {
		if !o.has(at) {
			return
		}
		for a := at - 1; a >= 0; a-- {
			if o.holds(a, at) && !yield(a) {
				return
			}
		}
	}
}

// kids hands on the nodes whose parent is the one at at, rising; of -1 those that have none.
func (o order) kids(at int) iter.Seq[int] {
	return func(yield func(int) bool) {
		from, to := o.inner(at)
		for k := from; k < to && yield(k); {
			k = o.end(k)
		}
	}
}

// inner is where what is within the node at at begins, and where it ends; of -1 it is all nodes.
func (o order) inner(at int) (from, to int) {
	if at == -1 {
		return 0, o.many()
	}
	if !o.has(at) {
		return 0, 0
	}
	return at + 1, o.end(at)
}
