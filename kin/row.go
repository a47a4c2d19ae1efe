package kin

import (
	"iter"
	"slices"

	"gatefold/api"
	"gatefold/tree"
	"gatefold/valid"
)

// nodes are a document's, told by their places.
type nodes []api.Node

// isBlock tells whether there is a block at at.
func (l nodes) isBlock(at int) bool {
	return at >= 0 && at < len(l) && l[at].Kind == api.KindBlock
}

// end is where the node at at ends, with all within it.
func (l nodes) end(at int) int { return at + l[at].Size }

// atoms is how many atoms the node at at has at least, and at most.
func (l nodes) atoms(at int) (least, most int) {
	switch n := l[at]; n.Kind {
	case api.KindText:
		return 1, len(n.Words)
	case api.KindMono:
		return 1, 1
	}
	return 0, 0
}

// above hands on the blocks above the node at at, the innermost first.
func (l nodes) above(at int) iter.Seq[int] { return slices.Values(tree.Above(l, at)) }

// row is the nodes of atoms, by their places among a document's.
type row struct {
	nodes
	of []int
}

// may tells whether the row may be.
func (r row) may() bool {
	if !valid.Is(r.nodes) {
		return false
	}
	k := 0
	for at := range r.nodes {
		many := r.run(k, at)
		if least, most := r.atoms(at); many < least || many > most {
			return false
		}
		k += many
	}
	return k == len(r.of)
}

// run is how many atoms from k on are, without another one between, of the node at at.
func (r row) run(k, at int) int {
	many := 0
	for k+many < len(r.of) && r.of[k+many] == at {
		many++
	}
	return many
}

// has tells whether there is an atom k.
func (r row) has(k int) bool { return k >= 0 && k < len(r.of) }

// holdsAtom tells whether there is an atom k, and the block holds its node.
func (r row) holdsAtom(block, k int) bool {
	return r.has(k) && block <= r.of[k] && r.of[k] < r.end(block)
}

// around is the blocks above the node of the atom k, the innermost first, of which is says yes; none, if there is no atom k.
func (r row) around(k int, is func(block int) bool) []int {
	if !r.has(k) {
		return nil
	}
	var found []int
	for block := range r.above(r.of[k]) {
		if is(block) {
			found = append(found, block)
		}
	}
	return found
}

// text is the node of both atoms at the place k, if they have one node; else -1.
func (r row) text(k int) int {
	if !r.has(k-1) || !r.has(k) || r.of[k-1] != r.of[k] {
		return -1
	}
	return r.of[k]
}
