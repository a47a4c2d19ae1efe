package valid_test

import (
	"math/big"
	"reflect"
	"slices"
	"strconv"
	"strings"

	"gatefold/api"
	"gatefold/read"
)

// script is a script that is read as l, if there is one; of other rows it is some text.
func script(l []api.Node) string {
	var b strings.Builder
	write(&b, l)
	return b.String()
}

func write(b *strings.Builder, l []api.Node) {
	for len(l) > 0 {
		n, size := l[0], 1
		switch n.Kind {
		case api.KindBlock:
			size = min(max(n.Size, 1), len(l))
			b.WriteString("[")
			attributes(b, n.Style)
			write(b, l[1:size])
			b.WriteString("]")
		case api.KindText:
			b.WriteString("(")
			numbers(b, n.Line, n.Space)
			numbers(b, n.Words...)
			b.WriteString(")")
		case api.KindMono:
			b.WriteString("{")
			numbers(b, n.W, n.H)
			b.WriteString("}")
		case api.KindFloat:
			b.WriteString("<")
			b.WriteString(map[int]string{api.SideLeft: "L", api.SideRight: "R"}[n.Side])
			numbers(b, n.W, n.H)
			b.WriteString(">")
		default:
			b.WriteString("!")
		}
		l = l[size:]
	}
}

func numbers(b *strings.Builder, l ...int) {
	for _, n := range l {
		b.WriteString(strconv.Itoa(n) + " ")
	}
}

func attributes(b *strings.Builder, s api.Style) {
	for i, n := range []int{s.Top, s.Bottom, s.PadTop, s.PadBottom, s.Inset, s.Orphans, s.Widows, s.Head, s.Before, s.After, s.Inside, s.Clear} {
		letter := "mnpqiowhBAIc"[i : i+1]
		// Of a header 0 can't be told, but is what is not told.
		if letter != "h" || n != 0 {
			b.WriteString(letter)
			numbers(b, n)
		}
	}
}

// some tells, by the chapter's words, whether some script is read as l: script(l) is, if any is.
func some(l []api.Node) bool {
	back, _, e := read.Of(script(l))
	return e == api.OK && equal(l, back)
}

// equal tells whether a and b are the same, all that there is of a node; an empty list is as good as nil.
func equal(a, b []api.Node) bool {
	return slices.EqualFunc(a, b, func(x, y api.Node) bool {
		return slices.Equal(x.Words, y.Words) && reflect.DeepEqual(wordless(x), wordless(y))
	})
}

func wordless(n api.Node) api.Node {
	n.Words = nil
	return n
}

// sums is how much a document's nodes are, by the chapter's words, reckoned with no limit of bits.
func sums(l []api.Node) api.Sums {
	var s api.Sums
	high := new(big.Int)
	for at, n := range l {
		s.Nodes++
		s.Depth = max(s.Depth, blocks(l, at))
		switch n.Kind {
		case api.KindBlock:
			for _, part := range []int{n.Style.Top, n.Style.Bottom, n.Style.PadTop, n.Style.PadBottom, n.Style.Head} {
				high.Add(high, big.NewInt(int64(part)))
			}
		case api.KindText:
			s.Pieces += len(n.Words)
			high.Add(high, new(big.Int).Mul(big.NewInt(int64(n.Line)), big.NewInt(int64(len(n.Words)))))
		default:
			s.Pieces++
			high.Add(high, big.NewInt(int64(n.H)))
		}
	}
	s.Heights = api.Max + 1
	if high.Cmp(big.NewInt(api.Max)) <= 0 {
		s.Heights = int(high.Int64())
	}
	return s
}

// blocks is how many blocks hold the node at at, itself counted.
func blocks(l []api.Node, at int) int {
	many := 0
	for i, n := range l[:at+1] {
		if n.Kind == api.KindBlock && at < i+n.Size {
			many++
		}
	}
	return many
}

// beyond tells, by the chapter's words, whether s is beyond the limits.
func beyond(s api.Sums) bool {
	return s.Depth > 16 || s.Pieces > 2000 || s.Nodes > 2000 || s.Heights > 1<<40
}
