package read_test

import (
	"reflect"
	"slices"
	"strings"
	"testing"

	"gatefold/api"
	"gatefold/lex"
	"gatefold/read"
)

// answer is what Of answers.
type answer struct {
	l  []api.Node
	at int
	e  api.Errno
}

func of(s string) answer {
	l, at, e := read.Of(s)
	return answer{l, at, e}
}

// same tells whether a and b are equal, all that there is of a node; an empty list is as good as nil.
func same(a, b answer) bool {
	return a.at == b.at && a.e == b.e && slices.EqualFunc(a.l, b.l, func(x, y api.Node) bool {
		return slices.Equal(x.Words, y.Words) && reflect.DeepEqual(wordless(x), wordless(y))
	})
}

func wordless(n api.Node) api.Node {
	n.Words = nil
	return n
}

func fine(l ...api.Node) answer { return answer{l, 0, api.OK} }

func wrong(at int) answer { return answer{nil, at, api.ErrMalformed} }

func block(size int, turn func(s *api.Style)) api.Node {
	s := api.Style{Orphans: 2, Widows: 2}
	if turn != nil {
		turn(&s)
	}
	return api.Node{Kind: 1, Size: size, Style: s}
}

func text(line, space int, words ...int) api.Node {
	return api.Node{Kind: 2, Size: 1, Line: line, Space: space, Words: words}
}

func box(w, h int) api.Node { return api.Node{Kind: 3, Size: 1, W: w, H: h} }

func float(side, w, h int) api.Node { return api.Node{Kind: 4, Size: 1, Side: side, W: w, H: h} }

// check holds what Of and Is answer of s against want, and want against the tests' own words.
func check(t *testing.T, s string, want answer) {
	t.Helper()
	if a := of(s); !same(a, want) {
		t.Errorf("%q: %v, not %v", s, a, want)
	}
	if read.Is(s) != (want.e == api.OK) {
		t.Errorf("Is(%q): %v", s, read.Is(s))
	}
	if a := plain(s); !same(a, want) {
		t.Errorf("%q: the tests' own words say %v, not %v", s, a, want)
	}
}

// TestExamples: P5.1, the chapter's examples.
func TestExamples(t *testing.T) {
	check(t, "[m5 (10 2 30 40)]", fine(block(2, func(s *api.Style) { s.Top = 5 }), text(10, 2, 30, 40)))
	check(t, "{3 4}<L 5 6>", fine(box(3, 4), float(api.SideLeft, 5, 6)))
	check(t, "[]", fine(block(1, nil)))
	check(t, "[w1B4]", fine(block(1, func(s *api.Style) { s.Widows, s.Before = 1, 4 })))
	check(t, "]", wrong(0))
	check(t, "[", wrong(1))
	check(t, "(1 1)", wrong(4))
	check(t, "[m1m2]", wrong(3))
}

// TestNodes: P5.1, of each kind of nodes, and of none.
func TestNodes(t *testing.T) {
	for s, want := range map[string]answer{
		"":                fine(),
		" \n# nothing":    fine(),
		"(1 0 1)":         fine(text(1, 0, 1)),
		"(9 8 7 6 5 4 6)": fine(text(9, 8, 7, 6, 5, 4, 6)),
		"(1099511627776 1099511627776 1099511627776)": fine(text(api.Max, api.Max, api.Max)),
		"{1 1}":                         fine(box(1, 1)),
		"{1099511627776 1}":             fine(box(api.Max, 1)),
		"{1 1099511627776}":             fine(box(1, api.Max)),
		"<L 1 2>":                       fine(float(1, 1, 2)),
		"<R 3 1099511627776>":           fine(float(2, 3, api.Max)),
		"<\tR#\n3#\n4#\n>#":             fine(float(2, 3, 4)),
		"[{1 2}]{3 4}":                  fine(block(2, nil), box(1, 2), box(3, 4)),
		"[][]":                          fine(block(1, nil), block(1, nil)),
		"[[][]]":                        fine(block(3, nil), block(1, nil), block(1, nil)),
		"[[[]]]":                        fine(block(3, nil), block(2, nil), block(1, nil)),
		"[[]{1 1}[<L1 1>[(1 0 1)]]]":    fine(block(7, nil), block(1, nil), box(1, 1), block(4, nil), float(1, 1, 1), block(2, nil), text(1, 0, 1)),
		"[ m 5 # top\n( 10 2 30\n40) ]": fine(block(2, func(s *api.Style) { s.Top = 5 }), text(10, 2, 30, 40)),
		"[m5][]":                        fine(block(1, func(s *api.Style) { s.Top = 5 }), block(1, nil)),
		"[m5[]]":                        fine(block(2, func(s *api.Style) { s.Top = 5 }), block(1, nil)),
		"[m5[m6]][m7]":                  fine(block(2, func(s *api.Style) { s.Top = 5 }), block(1, func(s *api.Style) { s.Top = 6 }), block(1, func(s *api.Style) { s.Top = 7 })),
	} {
		check(t, s, want)
	}
}

// TestAttributes: P5.1, of each letter, with numbers within its bounds and beyond them.
func TestAttributes(t *testing.T) {
	for i := range len(letters) {
		letter := letters[i]
		b := bounds(letter)
		for _, n := range []int{0, 1, 2, 3, 4, 5, 6, 100, api.Max - 1, api.Max} {
			want := wrong(2)
			if b.least <= n && n <= b.most {
				want = fine(block(1, func(s *api.Style) { set(s, rune(letter), n) }))
			}
			check(t, "["+string(letter)+number(n)+"]", want)
		}
		check(t, "["+string(letter)+"1099511627777]", wrong(2))
		check(t, "["+string(letter)+"01]", wrong(2))
		check(t, "["+string(letter)+"-1]", wrong(2))
		check(t, "["+string(letter)+"]", wrong(2))
		check(t, "["+string(letter), wrong(2))
		check(t, "["+string(letter)+"1", wrong(3))
		check(t, "["+string(letter)+"1 1]", wrong(4))
		check(t, "["+string(letter)+"1[]"+string(letter)+"1]", wrong(5))
		check(t, "[[]"+string(letter)+"1]", wrong(3))
		check(t, string(letter)+"1", wrong(0))
	}
}

// TestAttributePairs: P5.1: letters stand in any order, each once.
func TestAttributePairs(t *testing.T) {
	for _, a := range letters {
		for _, b := range letters {
			want := fine(block(1, func(s *api.Style) {
				set(s, a, 1)
				set(s, b, 1)
			}))
			if a == b {
				want = wrong(3)
			}
			check(t, "["+string(a)+"1"+string(b)+"1]", want)
			check(t, "[[]["+string(a)+"1]["+string(b)+"1]]", fine(block(4, nil), block(1, nil),
				block(1, func(s *api.Style) { set(s, a, 1) }), block(1, func(s *api.Style) { set(s, b, 1) })))
		}
	}
	all := fine(block(1, func(s *api.Style) {
		*s = api.Style{Top: 13, Bottom: 14, PadTop: 15, PadBottom: 16, Inset: 17, Orphans: 18, Widows: 19, Head: 20, Before: 3, After: 4, Inside: 1, Clear: 2}
	}))
	check(t, "[m13n14p15q16i17o18w19h20B3A4I1c2]", all)
	check(t, "[c2I1A4B3h20w19o18i17q16p15n14m13]", all)
	check(t, "[c2I1A4B3h20w19o18i17q16p15n14m13c2]", wrong(33))
}

// TestNoLetters: P5.1: no other character is an attribute, or begins a node.
func TestNoLetters(t *testing.T) {
	for c := rune(0); c < 0x300; c++ {
		if strings.ContainsRune(letters+" \t\n#[({<]0123456789", c) {
			continue
		}
		check(t, "["+string(c)+"1]", wrong(1))
		check(t, "[m1"+string(c)+"1]", wrong(3))
		check(t, "{1 1}"+string(c), wrong(5))
	}
	check(t, "\ufffd", wrong(0))
}

// TestFaults: P5.1: the place of the first token that can't be, or the script's length.
func TestFaults(t *testing.T) {
	for s, at := range map[string]int{
		"5": 0, "  ]": 2, "[]]": 2, "{1 1}]": 5, "{1 1}[": 6, "[[]": 3, "[[ ] # c": 8, "[\n": 2, "[ # ]": 5,
		"(": 1, "(1": 2, "(1 0": 4, "(1 0 1": 6, "(1 0 1  ": 8, "()": 1, "(1)": 2, "(1 0)": 4, "(0 0 1)": 1, "(1 0 0)": 5, "(1 0 1 0 1)": 7, "(1 0 1 (": 7, "(1 0 1]": 6, "(1 0 1}": 6, "(m": 1,
		"{": 1, "{}": 1, "{1}": 2, "{1": 2, "{1 1": 4, "{0 1}": 1, "{1 0}": 3, "{1 1 1}": 5, "{1 1)": 4, "{1 1>": 4, "{{": 1,
		"<": 1, "<>": 1, "<1 1>": 1, "<L>": 2, "<L1>": 3, "<L 0 1>": 3, "<L 1 0>": 5, "<L 1 1 1>": 7, "<l 1 1>": 1, "<LR 1 1>": 2, "<M 1 1>": 1, "<L1 1": 5, "<L1 1]": 5, "<1 1 L>": 1,
		"L": 0, "R": 0, "[5]": 1, "[m5 5]": 4, "[m5)": 3, "[mm5]": 2, "[m[": 2, "[{1 1}m1]": 6, "[m1 {1 1} n1]": 10, ")": 0, "}": 0, ">": 0, "[)": 1,
		"[\u00e9]": 1, "{1 1}\u00e9\u00e9": 5, "\u00e9": 0,
	} {
		check(t, s, wrong(at))
	}
}

// TestLexFirst: P5.1: what is wrong with characters and numbers goes first, wherever it stands.
func TestLexFirst(t *testing.T) {
	for s, at := range map[string]int{
		"] \xff": 2, "\xff": 0, "[\xff": 1, "] 01": 2, "(1 1) 1099511627777": 6, "[m1m2] # \xff": 9, "x00": 1, "] 01 \xff": 2, "] \xff 01": 2, "[[[ 007": 4,
	} {
		check(t, s, wrong(at))
	}
}

// ahead tries all rows of tokens of at most n, behind which others stand, that can go on from hopes.
func ahead(t *testing.T, s string, hopes []stack, n int) {
	want := wrong(len(s))
	if slices.ContainsFunc(hopes, done) {
		l, _, _ := lex.Of(s)
		nodes, _ := build(l)
		want = fine(nodes...)
	}
	if a := of(s); !same(a, want) || read.Is(s) != (want.e == api.OK) {
		t.Fatalf("%q: %v, not %v", s, a, want)
	}
	if n == 0 {
		return
	}
	for _, c := range "[](){}<>LRmBx015" {
		tok := api.Token{Kind: api.TokSign, Sign: c}
		if '0' <= c && c <= '9' {
			tok = api.Token{Kind: api.TokNum, N: int(c - '0')}
		}
		next := eatAll(hopes, tok)
		if len(next) > 0 {
			ahead(t, s+string(c)+" ", next, n-1)
			continue
		}
		for _, rest := range []string{"", "]", " 1 1}", "[)"} {
			if a := of(s + string(c) + rest); !same(a, wrong(len(s))) {
				t.Fatalf("%q: %v, not at %d", s+string(c)+rest, a, len(s))
			}
		}
	}
}

// TestAllShort: P5.1, of all rows of few tokens.
func TestAllShort(t *testing.T) { ahead(t, "", start(), 8) }

// pieces are documents, and their nodes.
func pieces() map[string][]api.Node {
	return map[string][]api.Node{
		"":                    nil,
		"#":                   nil,
		"[]":                  {block(1, nil)},
		"{3 4}":               {box(3, 4)},
		"<R 1 2>":             {float(2, 1, 2)},
		"(5 0 6 7)":           {text(5, 0, 6, 7)},
		"[m1w3 {1 2}[h2]]#]":  {block(3, func(s *api.Style) { s.Top, s.Widows = 1, 3 }), box(1, 2), block(1, func(s *api.Style) { s.Head = 2 })},
		"(1 1 1)[c3<L 9 9>] ": {text(1, 1, 1), block(2, func(s *api.Style) { s.Clear = 3 }), float(1, 9, 9)},
	}
}

// TestOneBehindTheOther: P5.5: documents with LF between are the nodes of both; in a block they are those within it.
func TestOneBehindTheOther(t *testing.T) {
	for one, a := range pieces() {
		check(t, one+"\n]", wrong(len(one)+1))
		check(t, "[I1 "+one+"\n]", fine(append([]api.Node{block(len(a)+1, func(s *api.Style) { s.Inside = 1 })}, a...)...))
		for two, b := range pieces() {
			check(t, one+"\n"+two, fine(slices.Concat(a, b)...))
			check(t, one+"\n]"+two, wrong(len(one)+1))
			check(t, one+"\n"+two+"\n[", wrong(len(one)+len(two)+3))
		}
	}
}

// TestRows: P5.4: a node's Size is the sum of those within it, and one; numbers lie within their bounds.
func TestRows(t *testing.T) {
	l := []string{"[[[][m1[]]{1 2}]][][(1 0 1 2)[<L 1 2>]]", strings.Repeat("[B4o1h1c3I1", 40) + strings.Repeat("{1 1}]", 40)}
	for one := range pieces() {
		for two := range pieces() {
			l = append(l, one+"\n[A4q0["+two+"\n"+one+"\n]]"+two)
		}
	}
	for _, s := range l {
		a := of(s)
		if a.e != api.OK || rows(a.l) != nil {
			t.Errorf("%q: %v, %v", s, a, rows(a.l))
		}
		for _, n := range a.l {
			if !within(n) {
				t.Errorf("%q: %v", s, n)
			}
		}
	}
}

// rows goes over rows within rows, and is what is left of them.
func rows(l []api.Node) []api.Node {
	for len(l) > 0 {
		size := l[0].Size
		if size < 1 || size > len(l) || rows(l[1:size]) != nil || l[0].Kind != 1 && size > 1 {
			return l
		}
		l = l[size:]
	}
	return nil
}

// within tells whether the numbers of a node are those that its kind may have.
func within(n api.Node) bool {
	s := n.Style
	switch n.Kind {
	case api.KindBlock:
		return same(fine(n), fine(api.Node{Kind: 1, Size: n.Size, Style: s})) &&
			min(s.Top, s.Bottom, s.PadTop, s.PadBottom, s.Inset, s.Head, s.Before, s.After, s.Inside, s.Clear, s.Orphans-1, s.Widows-1) >= 0 &&
			max(s.Before, s.After) <= 4 && s.Inside <= 1 && s.Clear <= 3
	case api.KindText:
		return same(fine(n), fine(text(n.Line, n.Space, n.Words...))) && min(n.Line, n.Space+1) >= 1 && slices.Min(n.Words) >= 1
	case api.KindMono:
		return same(fine(n), fine(box(n.W, n.H))) && min(n.W, n.H) >= 1
	}
	return same(fine(n), fine(float(n.Side, n.W, n.H))) && min(n.W, n.H, n.Side) >= 1 && n.Side <= 2
}

// changes are what makes a node another one, part by part.
func changes() []func(n *api.Node) {
	return []func(n *api.Node){
		func(n *api.Node) { n.Kind++ },
		func(n *api.Node) { n.Size++ },
		func(n *api.Node) { n.Line++ },
		func(n *api.Node) { n.Space++ },
		func(n *api.Node) { n.Side++ },
		func(n *api.Node) { n.W++ },
		func(n *api.Node) { n.H++ },
		func(n *api.Node) { n.Words = append(slices.Clone(n.Words), 1) },
		func(n *api.Node) { n.Words = append([]int{1}, n.Words...) },
		func(n *api.Node) { n.Style.Top++ },
		func(n *api.Node) { n.Style.Bottom++ },
		func(n *api.Node) { n.Style.PadTop++ },
		func(n *api.Node) { n.Style.PadBottom++ },
		func(n *api.Node) { n.Style.Inset++ },
		func(n *api.Node) { n.Style.Orphans++ },
		func(n *api.Node) { n.Style.Widows++ },
		func(n *api.Node) { n.Style.Head++ },
		func(n *api.Node) { n.Style.Before++ },
		func(n *api.Node) { n.Style.After++ },
		func(n *api.Node) { n.Style.Inside++ },
		func(n *api.Node) { n.Style.Clear++ },
	}
}

// TestSame: P5.2: each part of each node counts, and the order.
func TestSame(t *testing.T) {
	row := of("[m1 (1 2 3 4)]{5 6}<L 7 8>").l
	if !read.Same(row, row) || !read.Same(row, of("[ m1 # as it was\n(1 2 3 4)]{5 6}<L 7 8>").l) {
		t.Error("a row is not the same as itself")
	}
	for i := range row {
		for j, change := range changes() {
			other := slices.Clone(row)
			change(&other[i])
			if read.Same(row, other) || read.Same(other, row) {
				t.Errorf("node %d, change %d: still the same", i, j)
			}
		}
		less := slices.Delete(slices.Clone(row), i, i+1)
		if read.Same(row, less) || read.Same(less, row) || read.Same(row, append(slices.Clone(row), row[i])) {
			t.Errorf("node %d: still the same without it, or with one more", i)
		}
	}
	for _, other := range []string{"{5 6}[m1 (1 2 3 4)]<L 7 8>", "[m1 (1 2 4 3)]{5 6}<L 7 8>", "[m1 (1 2 3 5)]{5 6}<L 7 8>", "[m1 (1 2 3)]{5 6}<L 7 8>", "[m1 (1 2 3 4){5 6}]<L 7 8>", ""} {
		if l := of(other).l; read.Same(row, l) || read.Same(l, row) {
			t.Errorf("the same as %q", other)
		}
	}
}

// TestSameOdd: P5.2, of rows that are no documents, and empty ones.
func TestSameOdd(t *testing.T) {
	odd := api.Node{Kind: -1, Size: -7, Line: -1, Words: []int{}, W: 1 << 62}
	bare := odd
	bare.Words = nil
	for _, x := range []struct {
		a, b []api.Node
		want bool
	}{
		{nil, nil, true},
		{nil, []api.Node{}, true},
		{[]api.Node{{}}, nil, false},
		{[]api.Node{{}}, []api.Node{{}}, true},
		{[]api.Node{odd}, []api.Node{bare}, true},
		{[]api.Node{odd, bare}, []api.Node{bare, odd}, true},
		{[]api.Node{odd}, []api.Node{odd, odd}, false},
		{[]api.Node{odd}, []api.Node{{}}, false},
	} {
		if read.Same(x.a, x.b) != x.want || read.Same(x.b, x.a) != x.want {
			t.Errorf("%v, %v: not %v", x.a, x.b, x.want)
		}
	}
}

// spoil changes all of a row that can be changed, and the room behind its ends.
func spoil(l []api.Node) {
	for i := range l {
		words := l[i].Words[:cap(l[i].Words)]
		for j := range words {
			words[j] = -7
		}
	}
	l = l[:cap(l)]
	for i := range l {
		l[i] = api.Node{Kind: -7}
	}
}

// TestNewMemory: P5.3: what is answered is nobody else's, and no two lists of an answer share any.
func TestNewMemory(t *testing.T) {
	const s = "[m1 (1 2 3 4)(1 2 3)]{5 6}(1 2 5 6 7)<L 7 8>"
	one, two := of(s), of(s)
	spoil(one.l)
	if three := of(s); !same(two, plain(s)) || !same(three, plain(s)) {
		t.Errorf("the answer is not new memory: %v, %v", two, three)
	}
	for i := range two.l {
		want := plain(s)
		want.l[i].Words = nil
		mine := of(s)
		spoil(mine.l[i : i+1 : i+1])
		mine.l[i] = want.l[i]
		if !same(mine, want) {
			t.Errorf("node %d shares memory with others: %v", i, mine)
		}
	}
}

// TestStays: P5.3: Same changes nothing, nor the room behind the ends.
func TestStays(t *testing.T) {
	row := of("[m1 (1 2 3 4)]{5 6}<L 7 8>{9 9}").l
	a, b := slices.Clone(row), slices.Clone(row)
	read.Same(a[:2], b[:2])
	read.Same(a[:1], b[:3])
	if !same(fine(a...), fine(row...)) || !same(fine(b...), fine(row...)) {
		t.Errorf("%v, %v", a, b)
	}
}

// TestAlways: R1 and R5, of long scripts and deep ones: there is an answer, and the same one again.
func TestAlways(t *testing.T) {
	const many = 1 << 17
	deep := strings.Repeat("[", many)
	for s, want := range map[string]answer{
		deep:                                wrong(many),
		deep + strings.Repeat("]", many-1):  wrong(2*many - 1),
		deep + strings.Repeat("]", many+1):  wrong(2 * many),
		deep + "m1m1":                       wrong(many + 2),
		deep + "\xff":                       wrong(many),
		strings.Repeat("{1 1}", many) + "]": wrong(5 * many),
		"(1 0" + strings.Repeat(" 1", many): wrong(4 + 2*many),
		strings.Repeat("]", many):           wrong(0),
		"[" + strings.Repeat("m1", many):    wrong(3),
	} {
		if a := of(s); !same(a, want) || read.Is(s) {
			t.Errorf("%.20q, %d bytes: %d nodes, %d, %d", s, len(s), len(a.l), a.at, a.e)
		}
	}
	a := of(deep + strings.Repeat("]", many))
	if a.e != api.OK || a.at != 0 || len(a.l) != many {
		t.Fatalf("deep: %d nodes, %d, %d", len(a.l), a.at, a.e)
	}
	for i, n := range a.l {
		if n.Size != many-i {
			t.Fatalf("deep: the node %d has the size %d", i, n.Size)
		}
	}
	flat := strings.Repeat("[m1(1 0 1)]", many/8)
	if a := of(flat); a.e != api.OK || len(a.l) != many/4 || !same(a, of(flat)) {
		t.Errorf("flat: %d nodes, %d, %d", len(a.l), a.at, a.e)
	}
}
