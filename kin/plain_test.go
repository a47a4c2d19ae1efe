package kin_test

import (
	"math"
	"slices"
	"strings"
	"testing"

	"gatefold/api"
	"gatefold/kin"
	"gatefold/read"
)

// told is a document as its script tells it, sign by sign, with no look at Sizes.
type told struct {
	opens  []byte  // of each node the sign with which it begins
	words  []int   // of each node how many words it has
	around [][]int // of each node the blocks that are open around it, the innermost first
}

// tell is the document of s, in which no comment stands.
func tell(s string) told {
	var d told
	var open []int
	for at := range len(s) {
		switch c := s[at]; c {
		case '[', '(', '{', '<':
			d.opens = append(d.opens, c)
			d.words = append(d.words, 0)
			d.around = append(d.around, slices.Clone(open))
			if c == '(' {
				inner, _, _ := strings.Cut(s[at+1:], ")")
				d.words[len(d.words)-1] = len(strings.Fields(inner)) - 2
			}
			if c == '[' {
				open = slices.Concat([]int{len(d.opens) - 1}, open)
			}
		case ']':
			open = open[1:]
		}
	}
	return d
}

// many hands out, by the chapter's words, each number of atoms that the node at at may have.
func (d told) many(at int, yield func(many int)) {
	switch d.opens[at] {
	case '(':
		for many := 1; many <= d.words[at]; many++ {
			yield(many)
		}
	case '{':
		yield(1)
	default:
		yield(0)
	}
}

// every hands out all rows that may be.
func (d told) every(yield func(of []int)) {
	var grow func(at int, of []int)
	grow = func(at int, of []int) {
		if at == len(d.opens) {
			yield(of)
			return
		}
		d.many(at, func(many int) {
			grow(at+1, slices.Concat(of, slices.Repeat([]int{at}, many)))
		})
	}
	grow(0, nil)
}

// may tells whether of is one of the rows that may be.
func (d told) may(of []int) bool {
	is := false
	d.every(func(other []int) { is = is || slices.Equal(other, of) })
	return is
}

// above is the blocks above the node of the atom k, the innermost first; none, if there is no atom k.
func (d told) above(of []int, k int) []int {
	if k < 0 || k >= len(of) {
		return nil
	}
	return d.around[of[k]]
}

// kin is, by the chapter's words, that of the place k of a row that may be.
func (d told) kin(of []int, k int) api.Kin {
	x := api.Kin{Text: -1}
	ahead, behind := d.above(of, k-1), d.above(of, k)
	for _, b := range ahead {
		if slices.Contains(behind, b) {
			x.Both = append(x.Both, b)
		} else {
			x.Ends = append(x.Ends, b)
		}
	}
	for _, b := range behind {
		if !slices.Contains(ahead, b) {
			x.Begins = slices.Concat([]int{b}, x.Begins)
		}
	}
	if k > 0 && k < len(of) && of[k-1] == of[k] {
		x.Text = of[k]
	}
	return x
}

// held is, by the chapter's words, which atoms a block holds, of a row that may be.
func (d told) held(of []int, block int) (from, to int) {
	for k := range of {
		if slices.Contains(d.above(of, k), block) {
			if to == 0 {
				from = k
			}
			to = k + 1
		}
	}
	return from, to
}

// of is the nodes that s is read as.
func of(t *testing.T, s string) []api.Node {
	t.Helper()
	l, at, e := read.Of(s)
	if e != api.OK {
		t.Fatalf("%q is no document, at %d", s, at)
	}
	return l
}

// same tells whether two kins are the same; an empty list is as good as nil.
func same(a, b api.Kin) bool {
	return slices.Equal(a.Ends, b.Ends) && slices.Equal(a.Begins, b.Begins) && slices.Equal(a.Both, b.Both) && a.Text == b.Text
}

// check holds Check's answer against what is asked.
func check(t *testing.T, l []api.Node, row []int, want api.Errno) {
	t.Helper()
	if e := kin.Check(l, row); e != want {
		t.Fatalf("Check(%v, %v): %d, not %d", brief(l), brief(row), e, want)
	}
}

// at holds the kin of the place k against what is asked.
func at(t *testing.T, l []api.Node, row []int, k int, want api.Kin) {
	t.Helper()
	if x, e := kin.At(l, row, k); e != api.OK || !same(x, want) {
		t.Fatalf("At(%v, %v, %d): %v, %d, not %v", brief(l), brief(row), k, x, e, want)
	}
}

// no holds that ErrArg is answered for the place k, and no kin.
func no(t *testing.T, l []api.Node, row []int, k int) {
	t.Helper()
	if x, e := kin.At(l, row, k); e != api.ErrArg || !same(x, api.Kin{}) {
		t.Fatalf("At(%v, %v, %d): %v, %d", brief(l), brief(row), k, x, e)
	}
}

// held holds which atoms a block holds against what is asked.
func held(t *testing.T, l []api.Node, row []int, block, from, to int) {
	t.Helper()
	if a, b := kin.Held(l, row, block); a != from || b != to {
		t.Fatalf("Held(%v, %v, %d): %d, %d, not %d, %d", brief(l), brief(row), block, a, b, from, to)
	}
}

// all holds all that is told of a row that may be against the chapter's words, at all places, there or not.
func all(t *testing.T, l []api.Node, d told, row []int) {
	t.Helper()
	check(t, l, row, api.OK)
	for k := range len(row) + 1 {
		at(t, l, row, k, d.kin(row, k))
	}
	for _, k := range []int{-2, -1, len(row) + 1, len(row) + 2} {
		no(t, l, row, k)
	}
	for block := -2; block < len(l)+3; block++ {
		from, to := d.held(row, block)
		held(t, l, row, block, from, to)
	}
}

// refused holds all that is told of nodes that are no document's, or of a row that may not be.
func refused(t *testing.T, l []api.Node, row []int) {
	t.Helper()
	check(t, l, row, api.ErrArg)
	for k := -1; k < len(row)+2; k++ {
		no(t, l, row, k)
	}
	for block := -1; block < len(l)+1; block++ {
		held(t, l, row, block, 0, 0)
	}
}

// brief is l, cut off if it is long.
func brief[T any](l []T) []T { return l[:min(len(l), 8)] }

// rows hands out all rows of up to many of these.
func rows[T any](many int, of []T, yield func(l []T)) {
	var grow func(l []T)
	grow = func(l []T) {
		yield(l)
		if len(l) < many {
			for _, x := range of {
				grow(append(slices.Clone(l), x))
			}
		}
	}
	grow(nil)
}

// scripts hands out all documents of up to many of these parts, each of which closes a block that is open, opens one, or does neither; what is open in the end is closed.
func scripts(many int, parts []string, yield func(s string)) {
	rows(many, parts, func(l []string) {
		open := 0
		for _, p := range l {
			open += strings.Count(p, "[") - strings.Count(p, "]")
			if open < 0 {
				return
			}
		}
		yield(strings.Join(l, "") + strings.Repeat("]", open))
	})
}

// documents hands out all short documents of nodes of all kinds, and all rows of their atoms that may be.
func documents(t *testing.T, yield func(s string, l []api.Node, row []int)) {
	t.Helper()
	parts := []string{"{1 1}", "(1 0 1 1 1)", "<L1 1>", "[m2I1", "[", "]"}
	scripts(5, parts, func(s string) {
		l := of(t, s)
		tell(s).every(func(row []int) { yield(s, l, row) })
	})
}

// odds are numbers around all bounds of the machine.
func odds() []int {
	return []int{
		math.MinInt, math.MinInt + 1, -1 << 62, -1 << 40, -100, -3, -2, -1,
		100, 1 << 40, 1 << 62, math.MaxInt - 1, math.MaxInt,
	}
}
