package forced

import (
	"iter"
	"slices"

	"gatefold/api"
)

// asked hands on what the blocks of x that end, and those that begin, ask for.
func asked(l []api.Node, x api.Kin) iter.Seq[int] {
	return func(yield func(ask int) bool) {
		for _, block := range x.Ends {
			if !yield(l[block].Style.After) {
				return
			}
		}
		for _, block := range x.Begins {
			s := l[block].Style
			if s.Head > 0 && !yield(api.BreakPage) || !yield(s.Before) {
				return
			}
		}
	}
}

// ahead hands on which blocks end, and which begin, ahead of each atom. It goes over the nodes once for all places, as kin.At does for each single one.
func ahead(l []api.Node, of []int) iter.Seq[api.Kin] {
	return func(yield func(x api.Kin) bool) {
		var open []int // the blocks around the atom ahead, the outermost first
		next := 0
		for _, at := range of {
			holds := func(block int) bool { return at < block+l[block].Size }
			var x api.Kin
			for len(open) > 0 && !holds(open[len(open)-1]) {
				x.Ends = append(x.Ends, open[len(open)-1])
				open = open[:len(open)-1]
			}
			for ; next < at; next++ {
				if holds(next) {
					x.Begins = append(x.Begins, next)
				}
			}
			open = append(open, x.Begins...)
			if !yield(x) {
				return
			}
		}
	}
}

// strongest is the break that is forced where these are asked: the last one of a side, else that of a page; BreakAuto, if none of them forces one.
func strongest(asks ...int) int {
	last := func(is func(ask int) bool) int {
		for _, ask := range slices.Backward(asks) {
			if is(ask) {
				return ask
			}
		}
		return api.BreakAuto
	}
	if side := last(ofSide); side != api.BreakAuto {
		return side
	}
	return last(func(ask int) bool { return ask == api.BreakPage })
}

// ofSide tells whether a break asks for a side of the next page.
func ofSide(ask int) bool {
	switch ask {
	case api.BreakLeft:
		fallthrough
	case api.BreakRight:
		return true
	}
	return false
}
