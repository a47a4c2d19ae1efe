package tree_test

import (
	"math"
	"math/big"
	"slices"

	"gatefold/api"
)

const most = api.Max

// forest is nodes that were put down one by one, with who was open around each.
type forest struct {
	l      []api.Node
	around [][]int // of each node the blocks around it, the innermost first
	open   []int   // the blocks that are open, the innermost first
}

// put puts n down, in what is open.
func (f *forest) put(n api.Node) {
	for _, b := range f.open {
		f.l[b].Size++
	}
	n.Size = 1
	f.around = append(f.around, slices.Clone(f.open))
	f.l = append(f.l, n)
}

// begin puts a block down, and opens it.
func (f *forest) begin(n api.Node) {
	f.put(n)
	f.open = slices.Concat([]int{len(f.l) - 1}, f.open)
}

// end closes the innermost block that is open.
func (f *forest) end() { f.open = slices.Clone(f.open[1:]) }

// copied shares nothing with f that put, begin or end would change.
func (f *forest) copied() *forest {
	return &forest{slices.Clone(f.l), slices.Clone(f.around), slices.Clone(f.open)}
}

// is tells whether there is a node at at.
func (f *forest) is(at int) bool { return slices.Contains(f.places(), at) }

// places are all of f's.
func (f *forest) places() []int {
	var l []int
	for at := range f.l {
		l = append(l, at)
	}
	return l
}

// parent is, by the chapter's words, the innermost block around the node at at.
func (f *forest) parent(at int) int {
	if f.is(at) && len(f.around[at]) > 0 {
		return f.around[at][0]
	}
	return -1
}

// above is, by the chapter's words, the parent of the node at at, that one's parent, and so on.
func (f *forest) above(at int) []int {
	var l []int
	for p := f.parent(at); p != -1; p = f.parent(p) {
		l = append(l, p)
	}
	return l
}

// kids is, by the chapter's words, the nodes whose parent is the one at at; of -1 those that have none.
func (f *forest) kids(at int) []int {
	var l []int
	for _, k := range f.places() {
		if f.parent(k) == at {
			l = append(l, k)
		}
	}
	return l
}

// holds tells whether b is a, or put down while a was open.
func (f *forest) holds(a, b int) bool {
	return f.is(a) && f.is(b) && (a == b || slices.Contains(f.around[b], a))
}

// rooms is, by the chapter's words, the room of each node, reckoned with no limit of bits.
func (f *forest) rooms(w int) []api.Room {
	var l []api.Room
	if w < 1 || w > most {
		return nil
	}
	for at := range f.l {
		room := api.Room{X: 0, W: w}
		if p := f.parent(at); p != -1 {
			i := f.l[p].Style.Inset
			x := sum(l[p].X, i)
			if x.Cmp(big.NewInt(most)) > 0 {
				x.SetInt64(most)
			}
			w := sum(l[p].W, -i, -i)
			if w.Cmp(big.NewInt(1)) < 0 {
				w.SetInt64(1)
			}
			room = api.Room{X: int(x.Int64()), W: int(w.Int64())}
		}
		l = append(l, room)
	}
	return l
}

// sum is the sum of l, with no limit of bits.
func sum(l ...int) *big.Int {
	s := new(big.Int)
	for _, n := range l {
		s.Add(s, big.NewInt(int64(n)))
	}
	return s
}

// odds are numbers around all bounds of the chapter.
func odds() []int {
	return []int{
		math.MinInt, math.MinInt + 1, -1 << 62, -most - 1, -most, -100, -3, -2, -1,
		0, 1, 2, 3, 100, most/2 - 1, most / 2, most/2 + 1, most - 1, most, most + 1, 1 << 41, 1 << 62, math.MaxInt - 1, math.MaxInt,
	}
}

// widths are those of odds that may be asked, and some between.
func widths() []int {
	return []int{1, 2, 3, 4, 5, 6, 7, 8, 9, 10, 11, 12, 100, most/2 - 1, most / 2, most/2 + 1, most - 1, most}
}
