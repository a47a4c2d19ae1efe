package valid

import (
	"slices"

	"gatefold/api"
)

// fits tells whether the Size of n is one that it may have where so many nodes are left.
func fits(n api.Node, left int) bool {
	if n.Kind != api.KindBlock {
		return n.Size == 1
	}
	return !odd(1, left, n.Size)
}

// may tells whether n is such as a script tells, with no look at its Size.
func may(n api.Node) bool {
	switch n.Kind {
	case api.KindBlock:
		return mayStyle(n.Style) && noText(n) && n.Side == 0 && noBox(n)
	case api.KindText:
		return noStyle(n) && mayText(n) && n.Side == 0 && noBox(n)
	case api.KindMono:
		return noStyle(n) && noText(n) && n.Side == 0 && mayBox(n)
	case api.KindFloat:
		return noStyle(n) && noText(n) && !odd(api.SideLeft, api.SideRight, n.Side) && mayBox(n)
	}
	return false
}

func mayStyle(s api.Style) bool {
	return !odd(0, api.Max, s.Top, s.Bottom, s.PadTop, s.PadBottom, s.Inset, s.Head) &&
		!odd(1, api.Max, s.Orphans, s.Widows) &&
		!odd(api.BreakAuto, api.BreakRight, s.Before, s.After) &&
		!odd(api.BreakAuto, api.BreakAvoid, s.Inside) &&
		!odd(0, api.SideLeft|api.SideRight, s.Clear)
}

func noStyle(n api.Node) bool { return n.Style == api.Style{} }

func mayText(n api.Node) bool {
	return !odd(1, api.Max, n.Line) && !odd(0, api.Max, n.Space) &&
		len(n.Words) > 0 && !odd(1, api.Max, n.Words...)
}

func noText(n api.Node) bool { return n.Line == 0 && n.Space == 0 && len(n.Words) == 0 }

func mayBox(n api.Node) bool { return !odd(1, api.Max, n.W, n.H) }

func noBox(n api.Node) bool { return n.W == 0 && n.H == 0 }

// odd tells whether one of l is not from least to most.
func odd(least, most int, l ...int) bool {
	return slices.ContainsFunc(l, func(n int) bool { return n < least || n > most })
}
