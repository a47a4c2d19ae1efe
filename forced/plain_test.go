package forced_test

import (
	"math"
	"slices"
	"strconv"
	"strings"
	"testing"

	"gatefold/api"
	"gatefold/forced"
	"gatefold/read"
)

// told is a document as its script tells it, sign by sign, with no look at Sizes or Styles.
type told struct {
	opens  []byte         // of each node the sign with which it begins
	words  []int          // of each node how many words it has
	around [][]int        // of each node the blocks that are open around it, the innermost first
	says   []map[byte]int // of each node what its attributes' letters tell
}

// tell is the document of s, in which no comment stands.
func tell(s string) told {
	var d told
	var open []int
	for at := range len(s) {
		switch c := s[at]; c {
		case '[', '(', '{', '<':
			d.opens = append(d.opens, c)
			d.words = append(d.words, 0)
			d.around = append(d.around, slices.Clone(open))
			d.says = append(d.says, nil)
			last := len(d.opens) - 1
			if c == '(' {
				inner, _, _ := strings.Cut(s[at+1:], ")")
				d.words[last] = len(strings.Fields(inner)) - 2
			}
			if c == '[' {
				d.says[last] = letters(s[at+1:])
				open = slices.Concat([]int{last}, open)
			}
		case ']':
			open = open[1:]
		}
	}
	return d
}

// letters is what the attributes at the beginning of s tell.
func letters(s string) map[byte]int {
	says := make(map[byte]int)
	for s = strings.TrimLeft(s, " "); s != "" && strings.IndexByte("mnpqiowhBAIc", s[0]) >= 0; s = strings.TrimLeft(s, " ") {
		number := s[1 : len(s)-len(strings.TrimLeft(s[1:], " 0123456789"))]
		says[s[0]], _ = strconv.Atoi(strings.TrimSpace(number))
		s = s[1+len(number):]
	}
	return says
}

// every hands out all rows that may be.
func (d told) every(yield func(of []int)) {
	var grow func(at int, of []int)
	grow = func(at int, of []int) {
		if at == len(d.opens) {
			yield(of)
			return
		}
		switch d.opens[at] {
		case '(':
			for many := 1; many <= d.words[at]; many++ {
				grow(at+1, slices.Concat(of, slices.Repeat([]int{at}, many)))
			}
		case '{':
			grow(at+1, slices.Concat(of, []int{at}))
		default:
			grow(at+1, of)
		}
	}
	grow(0, nil)
}

// above is the blocks above the node of the atom k, the innermost first; none, if there is no atom k.
func (d told) above(of []int, k int) []int {
	if k < 0 || k >= len(of) {
		return nil
	}
	return d.around[of[k]]
}

// asked is, by the chapter's words, what is asked at the place k of a row that may be.
func (d told) asked(of []int, k int) []int {
	var asks []int
	if k == len(of) {
		return asks
	}
	ahead, behind := d.above(of, k-1), d.above(of, k)
	for _, b := range ahead {
		if !slices.Contains(behind, b) {
			asks = append(asks, d.says[b]['A'])
		}
	}
	for i := len(behind) - 1; i >= 0; i-- {
		b := behind[i]
		if slices.Contains(ahead, b) {
			continue
		}
		if d.says[b]['h'] > 0 {
			asks = append(asks, 2)
		}
		asks = append(asks, d.says[b]['B'])
	}
	return asks
}

// must is, by the chapter's words, the forced break where these are asked.
func must(asks []int) int {
	sides := slices.DeleteFunc(slices.Clone(asks), func(b int) bool { return b != 3 && b != 4 })
	if len(sides) > 0 {
		return sides[len(sides)-1]
	}
	if slices.Contains(asks, 2) {
		return 2
	}
	return 0
}

// of is the nodes that s is read as.
func of(t *testing.T, s string) []api.Node {
	t.Helper()
	l, at, e := read.Of(s)
	if e != api.OK {
		t.Fatalf("%q is no document, at %d", s, at)
	}
	return l
}

// at holds what is asked at the place k, and the forced break there, against what they should be.
func at(t *testing.T, l []api.Node, row []int, k int, asks []int, forces int) {
	t.Helper()
	if a, e := forced.Asked(l, row, k); e != api.OK || !slices.Equal(a, asks) {
		t.Fatalf("Asked(%v, %v, %d): %v, %d, not %v", brief(l), brief(row), k, a, e, asks)
	}
	if b, e := forced.At(l, row, k); e != api.OK || b != forces {
		t.Fatalf("At(%v, %v, %d): %d, %d, not %d", brief(l), brief(row), k, b, e, forces)
	}
}

// no holds that ErrArg is answered for the place k, and nothing else.
func no(t *testing.T, l []api.Node, row []int, k int) {
	t.Helper()
	if a, e := forced.Asked(l, row, k); e != api.ErrArg || len(a) > 0 {
		t.Fatalf("Asked(%v, %v, %d): %v, %d", brief(l), brief(row), k, a, e)
	}
	if b, e := forced.At(l, row, k); e != api.ErrArg || b != api.BreakAuto {
		t.Fatalf("At(%v, %v, %d): %d, %d", brief(l), brief(row), k, b, e)
	}
}

// breaks holds the forced breaks of all places against what they should be.
func breaks(t *testing.T, l []api.Node, row []int, want ...int) {
	t.Helper()
	if b, e := forced.All(l, row); e != api.OK || !slices.Equal(b, want) {
		t.Fatalf("All(%v, %v): %v, %d, not %v", brief(l), brief(row), brief(b), e, brief(want))
	}
}

// all holds all that is told of a row that may be against the chapter's words, at all places, there or not.
func all(t *testing.T, l []api.Node, d told, row []int) {
	t.Helper()
	var want []int
	for k := range len(row) + 1 {
		asks := d.asked(row, k)
		want = append(want, must(asks))
		at(t, l, row, k, asks, want[k])
	}
	breaks(t, l, row, want...)
	for _, k := range []int{-2, -1, len(row) + 1, len(row) + 2} {
		no(t, l, row, k)
	}
}

// refused holds all that is told of nodes that are no document's, or of a row that may not be.
func refused(t *testing.T, l []api.Node, row []int) {
	t.Helper()
	for k := -1; k < len(row)+2; k++ {
		no(t, l, row, k)
	}
	if b, e := forced.All(l, row); e != api.ErrArg || len(b) > 0 {
		t.Fatalf("All(%v, %v): %v, %d", brief(l), brief(row), b, e)
	}
}

// brief is l, cut off if it is long.
func brief[T any](l []T) []T { return l[:min(len(l), 8)] }

// rows hands out all rows of up to many of these.
func rows[T any](many int, of []T, yield func(l []T)) {
	var grow func(l []T)
	grow = func(l []T) {
		yield(l)
		if len(l) < many {
			for _, x := range of {
				grow(append(slices.Clone(l), x))
			}
		}
	}
	grow(nil)
}

// scripts hands out all documents of up to many of these parts, each of which closes a block that is open, opens one, or does neither; what is open in the end is closed.
func scripts(many int, parts []string, yield func(s string)) {
	rows(many, parts, func(l []string) {
		open := 0
		for _, p := range l {
			open += strings.Count(p, "[") - strings.Count(p, "]")
			if open < 0 {
				return
			}
		}
		yield(strings.Join(l, "") + strings.Repeat("]", open))
	})
}

// documents hands out all short documents of nodes of all kinds, whose blocks ask for this and that, and all rows of their atoms that may be.
func documents(t *testing.T, yield func(s string, l []api.Node, row []int)) {
	t.Helper()
	parts := []string{"{1 1}", "(1 0 1 1)", "<L1 1>", "[A2h3", "[B3A1", "[A4B2", "[ m5 B4 A3", "]"}
	scripts(5, parts, func(s string) {
		l := of(t, s)
		tell(s).every(func(row []int) { yield(s, l, row) })
	})
}

// odds are numbers around all bounds of the machine.
func odds() []int {
	return []int{
		math.MinInt, math.MinInt + 1, -1 << 62, -1 << 40, -100, -3, -2, -1,
		100, 1 << 40, 1 << 62, math.MaxInt - 1, math.MaxInt,
	}
}
