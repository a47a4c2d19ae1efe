package valid_test

import (
	"math"
	"reflect"
	"slices"
	"strings"
	"testing"

	"gatefold/api"
	"gatefold/read"
	"gatefold/valid"
)

const most = api.Max

func block(size int) api.Node { return api.Node{Kind: 1, Size: size, Style: api.Plain()} }

func text(line, space int, words ...int) api.Node {
	return api.Node{Kind: 2, Size: 1, Line: line, Space: space, Words: words}
}

func box(w, h int) api.Node { return api.Node{Kind: 3, Size: 1, W: w, H: h} }

func float(side, w, h int) api.Node { return api.Node{Kind: 4, Size: 1, Side: side, W: w, H: h} }

// styled is a block of Size 1 with a style that turn makes.
func styled(turn func(s *api.Style)) api.Node {
	n := block(1)
	turn(&n.Style)
	return n
}

func row(l ...api.Node) []api.Node { return l }

// deep is n blocks within one another.
func deep(n int) []api.Node {
	l := make([]api.Node, n)
	for i := range l {
		l[i] = block(n - i)
	}
	return l
}

// ones is n times the number 1.
func ones(n int) []int { return slices.Repeat([]int{1}, n) }

func of(t *testing.T, s string) []api.Node {
	t.Helper()
	l, _, e := read.Of(s)
	if e != api.OK {
		t.Fatalf("%q is no document", s)
	}
	return l
}

// brief is l, cut off if it is long.
func brief(l []api.Node) []api.Node { return l[:min(len(l), 6)] }

// document holds all three answers of l, a document's, against s.
func document(t *testing.T, l []api.Node, s api.Sums) {
	t.Helper()
	if !valid.Is(l) {
		t.Errorf("Is(%v): false", brief(l))
	}
	if c, e := valid.Count(l); e != api.OK || c != s {
		t.Errorf("Count(%v): %v, %v, not %v", brief(l), c, e, s)
	}
	want := api.OK
	if beyond(s) {
		want = api.ErrLimit
	}
	if e := valid.Check(l); e != want {
		t.Errorf("Check(%v): %v, not %v", brief(l), e, want)
	}
}

// none holds all three answers of l, which is no document's, against the chapter.
func none(t *testing.T, l []api.Node) {
	t.Helper()
	if valid.Is(l) {
		t.Errorf("Is(%v): true", brief(l))
	}
	if c, e := valid.Count(l); e != api.ErrArg || c != (api.Sums{}) {
		t.Errorf("Count(%v): %v, %v", brief(l), c, e)
	}
	if e := valid.Check(l); e != api.ErrArg {
		t.Errorf("Check(%v): %v", brief(l), e)
	}
}

// either is document, or none, by whether some script is read as l; it tells which.
func either(t *testing.T, l []api.Node) bool {
	t.Helper()
	if !some(l) {
		none(t, l)
		return false
	}
	document(t, l, sums(l))
	return true
}

// TestExamples: P6.1, P6.2 and P6.3, the chapter's examples.
func TestExamples(t *testing.T) {
	document(t, of(t, "[m5 (10 2 30 40)]"), api.Sums{Depth: 1, Pieces: 2, Nodes: 2, Heights: 25})
	document(t, nil, api.Sums{})
	document(t, []api.Node{}, api.Sums{})
	none(t, row(text(1, 1)))
	if e := valid.Check(deep(17)); e != api.ErrLimit {
		t.Errorf("17 blocks within one another: %v", e)
	}
}

// TestBounds: P6.1, of each number of a node, by the chapters' tables.
func TestBounds(t *testing.T) {
	style := func(n int, turn func(s *api.Style, n int)) api.Node {
		return styled(func(s *api.Style) { turn(s, n) })
	}
	for name, x := range map[string]struct {
		least, most int
		of          func(n int) api.Node
	}{
		"Top":        {0, most, func(n int) api.Node { return style(n, func(s *api.Style, n int) { s.Top = n }) }},
		"Bottom":     {0, most, func(n int) api.Node { return style(n, func(s *api.Style, n int) { s.Bottom = n }) }},
		"PadTop":     {0, most, func(n int) api.Node { return style(n, func(s *api.Style, n int) { s.PadTop = n }) }},
		"PadBottom":  {0, most, func(n int) api.Node { return style(n, func(s *api.Style, n int) { s.PadBottom = n }) }},
		"Inset":      {0, most, func(n int) api.Node { return style(n, func(s *api.Style, n int) { s.Inset = n }) }},
		"Orphans":    {1, most, func(n int) api.Node { return style(n, func(s *api.Style, n int) { s.Orphans = n }) }},
		"Widows":     {1, most, func(n int) api.Node { return style(n, func(s *api.Style, n int) { s.Widows = n }) }},
		"Head":       {0, most, func(n int) api.Node { return style(n, func(s *api.Style, n int) { s.Head = n }) }},
		"Before":     {0, 4, func(n int) api.Node { return style(n, func(s *api.Style, n int) { s.Before = n }) }},
		"After":      {0, 4, func(n int) api.Node { return style(n, func(s *api.Style, n int) { s.After = n }) }},
		"Inside":     {0, 1, func(n int) api.Node { return style(n, func(s *api.Style, n int) { s.Inside = n }) }},
		"Clear":      {0, 3, func(n int) api.Node { return style(n, func(s *api.Style, n int) { s.Clear = n }) }},
		"Line":       {1, most, func(n int) api.Node { return text(n, 0, 1) }},
		"Space":      {0, most, func(n int) api.Node { return text(1, n, 1) }},
		"a word":     {1, most, func(n int) api.Node { return text(1, 0, n) }},
		"first word": {1, most, func(n int) api.Node { return text(1, 0, n, 1, 1) }},
		"mid word":   {1, most, func(n int) api.Node { return text(1, 0, 1, n, 1) }},
		"last word":  {1, most, func(n int) api.Node { return text(1, 0, 1, 1, n) }},
		"box's W":    {1, most, func(n int) api.Node { return box(n, 1) }},
		"box's H":    {1, most, func(n int) api.Node { return box(1, n) }},
		"Side":       {1, 2, func(n int) api.Node { return float(n, 1, 1) }},
		"float's W":  {1, most, func(n int) api.Node { return float(1, n, 1) }},
		"float's H":  {1, most, func(n int) api.Node { return float(2, 1, n) }},
	} {
		for _, n := range odds() {
			l := row(x.of(n))
			if may := x.least <= n && n <= x.most; may != either(t, l) {
				t.Errorf("%s, %d: the tests' own words differ", name, n)
			}
			either(t, row(block(1), l[0], box(1, 1)))
		}
	}
}

// odds are numbers around all bounds of the chapters.
func odds() []int {
	return []int{
		math.MinInt, math.MinInt + 1, -1 << 62, -most - 1, -most, -2, -1,
		0, 1, 2, 3, 4, 5, 6, 100, most - 1, most, most + 1, 1 << 41, 1 << 62, math.MaxInt - 1, math.MaxInt,
	}
}

// parts hands out pointers to all whole numbers of n, those of its Style too, but for its words.
func parts(n *api.Node) []*int {
	var l []*int
	var gather func(v reflect.Value)
	gather = func(v reflect.Value) {
		for i := range v.NumField() {
			switch f := v.Field(i); f.Kind() {
			case reflect.Int:
				l = append(l, f.Addr().Interface().(*int))
			case reflect.Struct:
				gather(f)
			}
		}
	}
	gather(reflect.ValueOf(n).Elem())
	return l
}

// kinds are nodes of each kind, and of none.
func kinds() []api.Node {
	return []api.Node{
		block(1), text(1, 0, 1), text(3, 2, 1, 5), box(1, 1), float(1, 1, 1), float(2, 3, 4),
		styled(func(s *api.Style) {
			*s = api.Style{Top: 1, Bottom: 2, PadTop: 3, PadBottom: 4, Inset: 5, Orphans: 6, Widows: 7, Head: 8, Before: 3, After: 4, Inside: 1, Clear: 2}
		}),
		{}, {Size: 1}, {Kind: 5, Size: 1}, {Kind: -1, Size: 1}, {Kind: 3, Size: 1}, {Kind: 1, Size: 1},
	}
}

// TestNumbers: P6.1: whatever one number, or two, of a node are, also those that its kind doesn't name.
func TestNumbers(t *testing.T) {
	for _, n := range kinds() {
		for i := range parts(&n) {
			for _, a := range odds() {
				one := n
				*parts(&one)[i] = a
				either(t, row(one))
				for j := range i {
					for _, b := range []int{-1, 0, 1, 2, most + 1} {
						two := one
						*parts(&two)[j] = b
						either(t, row(two))
					}
				}
			}
		}
	}
}

// TestWords: P6.1: texts have words, one at least, and others none; an empty list is as good as nil.
func TestWords(t *testing.T) {
	for _, n := range kinds() {
		for _, words := range [][]int{nil, {}, {0}, {1}, {-1}, {most}, {most + 1}, {1, 2}, {1, 0}, {0, 1}, {2, -1, 2}, ones(50)} {
			n.Words = words
			either(t, row(n))
			either(t, row(block(2), n))
		}
	}
}

// rows hands out all rows of long nodes of the kinds l, with all Sizes from least to most.
func rows(long, least, most int, l []api.Node, yield func(l []api.Node)) {
	made := make([]api.Node, long)
	var put func(at int)
	put = func(at int) {
		if at == long {
			yield(made)
			return
		}
		for _, n := range l {
			for n.Size = least; n.Size <= most; n.Size++ {
				made[at] = n
				put(at + 1)
			}
		}
	}
	put(0)
}

// TestSizes: P6.1 and P6.2, of all short rows, whatever their Sizes.
func TestSizes(t *testing.T) {
	are, arent := 0, 0
	count := func(l []api.Node) {
		if either(t, l) {
			are++
		} else {
			arent++
		}
	}
	all := row(styled(func(s *api.Style) { s.Top = 3 }), text(2, 1, 1, 1), box(1, 5), float(1, 1, 7))
	for long := range 4 {
		rows(long, -1, 5, all, count)
	}
	rows(4, 0, 5, row(block(1), box(1, 1)), count)
	rows(5, 1, 6, row(block(1)), count)
	rows(6, 1, 3, row(block(1), box(1, 1)), count)
	if are < 500 || arent < 10000 {
		t.Errorf("%d are documents', and %d are not", are, arent)
	}
}

// TestGreatSizes: P6.1: Sizes beyond all rows are none, and don't wrap round.
func TestGreatSizes(t *testing.T) {
	for _, size := range odds() {
		either(t, row(block(size)))
		either(t, row(block(size), box(1, 1)))
		either(t, row(box(1, 1), block(size)))
		either(t, row(block(3), block(size), box(1, 1)))
		either(t, row(block(3), box(1, 1), block(size)))
		either(t, row(box(1, 1), box(1, 1), block(3), box(1, 1), block(size)))
		for _, n := range kinds() {
			n.Size = size
			either(t, row(n))
			either(t, row(n, box(1, 1)))
			either(t, row(block(3), n, box(1, 1)))
		}
	}
}

// TestCount: P6.2, of each number of Sums.
func TestCount(t *testing.T) {
	for s, want := range map[string]api.Sums{
		"[]":                                {Depth: 1, Nodes: 1},
		"[m1]":                              {Depth: 1, Nodes: 1, Heights: 1},
		"[n1]":                              {Depth: 1, Nodes: 1, Heights: 1},
		"[p1]":                              {Depth: 1, Nodes: 1, Heights: 1},
		"[q1]":                              {Depth: 1, Nodes: 1, Heights: 1},
		"[h1]":                              {Depth: 1, Nodes: 1, Heights: 1},
		"[i9o9w9B4A4I1c3]":                  {Depth: 1, Nodes: 1},
		"[m1n2p4q8h16]":                     {Depth: 1, Nodes: 1, Heights: 31},
		"(7 5 3)":                           {Pieces: 1, Nodes: 1, Heights: 7},
		"(7 5 3 3 3)":                       {Pieces: 3, Nodes: 1, Heights: 21},
		"{3 7}":                             {Pieces: 1, Nodes: 1, Heights: 7},
		"<L 3 7>":                           {Pieces: 1, Nodes: 1, Heights: 7},
		"<R 3 7>":                           {Pieces: 1, Nodes: 1, Heights: 7},
		"[][]":                              {Depth: 1, Nodes: 2},
		"[[][]]":                            {Depth: 2, Nodes: 3},
		"[[[]][]][[]]":                      {Depth: 3, Nodes: 6},
		"[[]][[[]]][]":                      {Depth: 3, Nodes: 6},
		"[[{1 1}]]{1 1}":                    {Depth: 2, Pieces: 2, Nodes: 4, Heights: 2},
		"[m1[m1[h2(3 0 1 1)]{1 4}]<R 2 5>]": {Depth: 3, Pieces: 4, Nodes: 6, Heights: 19},
	} {
		l := of(t, s)
		document(t, l, want)
		if sums(l) != want {
			t.Errorf("%q: the tests' own words say %v", s, sums(l))
		}
	}
}

// TestHeights: P6.2: Heights are cut off at Max and one, and don't wrap round on the way.
func TestHeights(t *testing.T) {
	for s, want := range map[string]int{
		"{1 1099511627775}":                       most - 1,
		"{1 1099511627776}":                       most,
		"{1 1099511627775}{1 1}":                  most,
		"{1 1099511627776}{1 1}":                  most + 1,
		"{1 1}<L 1 1099511627776>":                most + 1,
		"{1 1099511627776}{1 1099511627776}{1 1}": most + 1,
		"[m1099511627776][]":                      most,
		"[m1099511627776n1]":                      most + 1,
		"[p1099511627775h1]":                      most,
		"[p1099511627775h1q1]":                    most + 1,
		"[p1099511627775h1(1 0 1)]":               most + 1,
		"(1099511627776 0 1)":                     most,
		"(1099511627776 0 1 1)":                   most + 1,
		"(549755813888 0 1 1)":                    most,
		"(549755813888 0 1 1){1 1}":               most + 1,
		"(549755813889 0 1 1)":                    most + 1,
		"(366503875925 0 1 1 1)":                  most - 1,
		"(366503875925 0 1 1 1){1 1}":             most,
		"(366503875926 0 1 1 1)":                  most + 1,
		"[m1099511627776n1099511627776p1099511627776q1099511627776h1099511627776]": most + 1,
	} {
		l := of(t, s)
		if sums(l).Heights != want {
			t.Errorf("%q: the tests' own words say %v", s, sums(l))
		}
		either(t, l)
	}
	// So many lines of Max units are 2^63, and 2^64, which don't go into 64 bits.
	words := ones(1 << 24)
	for _, many := range []int{1 << 22, 1 << 23, 3 << 22, 1 << 24} {
		document(t, row(text(most, 0, words[:many]...)), api.Sums{Pieces: many, Nodes: 1, Heights: most + 1})
		document(t, row(text(most/many, 0, words[:many]...)), api.Sums{Pieces: many, Nodes: 1, Heights: most / many * many})
		document(t, row(text(most/many+1, 0, words[:many]...)), api.Sums{Pieces: many, Nodes: 1, Heights: most + 1})
	}
}

// TestLimits: P6.3, of each limit: what is at it, and one more.
func TestLimits(t *testing.T) {
	boxes := func(n int) []api.Node { return slices.Repeat(row(box(1, 1)), n) }
	floats := func(n int) []api.Node { return slices.Repeat(row(float(2, 1, 1)), n) }
	blocks := func(n int) []api.Node { return slices.Repeat(row(block(1)), n) }
	for i, x := range []struct {
		l    []api.Node
		want api.Errno
	}{
		{nil, api.OK},
		{deep(16), api.OK},
		{deep(17), api.ErrLimit},
		{slices.Concat(deep(16), deep(16)), api.OK},
		{slices.Concat(deep(17), deep(1)), api.ErrLimit},
		{slices.Concat(deep(1), deep(17)), api.ErrLimit},
		{slices.Repeat(deep(16), 125), api.OK},
		{slices.Concat(slices.Repeat(deep(16), 125), blocks(1)), api.ErrLimit},
		{blocks(2000), api.OK},
		{blocks(2001), api.ErrLimit},
		{boxes(2000), api.OK},
		{boxes(2001), api.ErrLimit},
		{floats(2000), api.OK},
		{floats(2001), api.ErrLimit},
		{row(text(1, 0, ones(2000)...)), api.OK},
		{row(text(1, 0, ones(2001)...)), api.ErrLimit},
		{row(text(1, 0, ones(1998)...), box(1, 1), float(1, 1, 1)), api.OK},
		{row(text(1, 0, ones(1999)...), box(1, 1), float(1, 1, 1)), api.ErrLimit},
		{row(text(1, 0, ones(1000)...), text(1, 0, ones(1000)...)), api.OK},
		{row(text(1, 0, ones(1000)...), text(1, 0, ones(1001)...)), api.ErrLimit},
		{slices.Concat(row(text(1, 0, ones(1000)...)), blocks(1999)), api.OK},
		{slices.Concat(row(text(1, 0, ones(1000)...)), blocks(2000)), api.ErrLimit},
		{row(box(1, most)), api.OK},
		{row(box(most, 1), box(1, most)), api.ErrLimit},
		{row(text(1<<39, 0, 1, 1)), api.OK},
		{row(text(1<<39, 0, 1, 1, 1)), api.ErrLimit},
		{row(text(1<<39, 0, 1, 1), block(1)), api.OK},
		{row(text(1<<39, 0, 1, 1), styled(func(s *api.Style) { s.Head = 1 })), api.ErrLimit},
		{row(box(most, 1), text(1, most, most, most), styled(func(s *api.Style) { s.Inset = most })), api.OK},
	} {
		if e := valid.Check(x.l); e != x.want {
			t.Errorf("%d: %v, not %v", i, e, x.want)
		}
		document(t, x.l, sums(x.l))
	}
}

// TestOrder: P6.3: what is no document's is ErrArg, also where it is beyond the limits, too.
func TestOrder(t *testing.T) {
	many := slices.Concat(slices.Repeat(row(box(1, most)), 2001), deep(17))
	document(t, many, api.Sums{Depth: 17, Pieces: 2001, Nodes: 2018, Heights: most + 1})
	none(t, append(many, api.Node{}))
	none(t, append(row(box(0, 1)), many...))
	none(t, append(many, block(2)))
	none(t, slices.Concat(many, row(text(1, 0)), many))
	none(t, deep(17)[:16])
	none(t, deep(2001)[:2000])
}

// TestDeep: P6.1 and P6.2 come to their end, however deep and long rows are.
func TestDeep(t *testing.T) {
	const many = 1 << 17
	l := deep(many)
	document(t, l, api.Sums{Depth: many, Nodes: many})
	none(t, l[:many-1])
	none(t, l[1:len(l)-1])
	l[many-1] = box(1, 1)
	document(t, l, api.Sums{Depth: many - 1, Pieces: 1, Nodes: many, Heights: 1})
	l[many/2].Size++
	none(t, l)
	document(t, slices.Repeat(row(block(1)), many), api.Sums{Depth: 1, Nodes: many})
}

// scripts hands out scripts of up to long pieces of a small alphabet.
func scripts(long int, yield func(s string)) {
	var put func(s string, long int)
	put = func(s string, long int) {
		yield(s)
		if long == 0 {
			return
		}
		for _, piece := range []string{"[", "]", "[h3", "m1099511627776", "q2B4", "(4 1 7 7)", "{2 6}", "<L 1 1>", "<R 9 549755813888>"} {
			put(s+piece, long-1)
		}
	}
	put("", long)
}

// TestRead: P6.5: what any script is read as is a document's.
func TestRead(t *testing.T) {
	many := 0
	check := func(s string) {
		l, _, e := read.Of(s)
		if e != api.OK {
			return
		}
		many++
		document(t, l, sums(l))
	}
	scripts(5, check)
	for _, n := range odds() {
		for _, letter := range strings.Split("mnpqiowhBAIc", "") {
			check("[" + letter + decimal(n) + "]")
		}
		for _, s := range []string{"(N 0 1)", "(1 N 1)", "(1 0 N)", "{N 1}", "{1 N}", "<L N 1>", "<R 1 N>"} {
			check(strings.ReplaceAll(s, "N", decimal(n)))
		}
	}
	if many < 1000 {
		t.Errorf("only %d scripts were documents", many)
	}
}

func decimal(n int) string {
	var b strings.Builder
	numbers(&b, n)
	return b.String()
}

// TestParts: P6.6, of two documents, one behind the other, and of blocks' inner nodes.
func TestParts(t *testing.T) {
	var all [][]api.Node
	scripts(3, func(s string) {
		if l, _, e := read.Of(s); e == api.OK {
			all = append(all, l)
		}
	})
	all = append(all, of(t, "[[m5 (10 2 30 40)[{1 1}[]]]<L 3 3>[]]"), deep(16))
	for _, a := range all {
		for _, b := range all {
			both(t, a, b)
		}
		for at, n := range a {
			if n.Kind == api.KindBlock {
				within := a[at+1 : at+n.Size]
				document(t, within, sums(within))
			}
		}
	}
}

// both holds the sums of a and b, one behind the other, against theirs alone.
func both(t *testing.T, a, b []api.Node) {
	t.Helper()
	x, _ := valid.Count(a)
	y, _ := valid.Count(b)
	document(t, slices.Concat(a, b), api.Sums{
		Depth:   max(x.Depth, y.Depth),
		Pieces:  x.Pieces + y.Pieces,
		Nodes:   x.Nodes + y.Nodes,
		Heights: min(x.Heights+y.Heights, most+1),
	})
}

// TestStays: P6.4: what is handed in stays, and the room behind its end, too.
func TestStays(t *testing.T) {
	for _, s := range []string{"", "[m5 (10 2 30 40)[{1 1}]<R 2 3>]", "[[]][](1 0 1 1 1)"} {
		for _, broken := range []bool{false, true} {
			l := append(of(t, s), box(0, -7), block(9))
			if !broken {
				l = l[:len(l)-2]
			}
			whole := l[:cap(l)]
			for i := range whole[len(l):] {
				whole[len(l)+i] = text(77, 7, 7)
			}
			for i := range whole {
				whole[i].Words = append(make([]int, 0, 8), whole[i].Words...)
				rest := whole[i].Words[len(whole[i].Words):8]
				for j := range rest {
					rest[j] = 9
				}
			}
			was := copied(whole)
			first := valid.Is(l)
			valid.Count(l)
			valid.Check(l)
			if !equal(was, copied(whole)) || valid.Is(l) != first || first == broken {
				t.Errorf("%q: %v, not %v", s, whole, was)
			}
		}
	}
}

// copied is l, with words and the room behind their ends.
func copied(l []api.Node) []api.Node {
	l = slices.Clone(l)
	for i, n := range l {
		l[i].Words = slices.Clone(n.Words[:cap(n.Words)])
	}
	return l
}
