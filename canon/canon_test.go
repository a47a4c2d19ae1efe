package canon_test

import (
	"math"
	"slices"
	"strconv"
	"strings"
	"testing"

	"gatefold/api"
	"gatefold/canon"
	"gatefold/read"
	"gatefold/valid"
)

const most = api.Max

func block(size int, s api.Style) api.Node { return api.Node{Kind: 1, Size: size, Style: s} }

func text(line, space int, words ...int) api.Node {
	return api.Node{Kind: 2, Size: 1, Line: line, Space: space, Words: words}
}

func box(w, h int) api.Node { return api.Node{Kind: 3, Size: 1, W: w, H: h} }

func float(side, w, h int) api.Node { return api.Node{Kind: 4, Size: 1, Side: side, W: w, H: h} }

func row(l ...api.Node) []api.Node { return l }

// brief is s, cut off if it is long.
func brief(s string) string { return s[:min(len(s), 200)] }

// written holds what Write answers of l, a document's nodes, against want, and want against the tests' own words; and what is read of it against l.
func written(t *testing.T, l []api.Node, want string) {
	t.Helper()
	if s, e := canon.Write(l); s != want || e != api.OK {
		t.Errorf("Write: %q, %v, not %q", brief(s), e, brief(want))
	}
	if s := plain(l); s != want {
		t.Errorf("the tests' own words say %q, not %q", brief(s), brief(want))
	}
	if !equal(l, back(want)) {
		t.Errorf("%q is not read as its nodes", brief(want))
	}
}

// unwritten holds what Write answers of l, which is no document's, against the chapter.
func unwritten(t *testing.T, l []api.Node) {
	t.Helper()
	if s, e := canon.Write(l); s != "" || e != api.ErrArg {
		t.Errorf("Write(%v): %q, %v", l[:min(len(l), 6)], s, e)
	}
}

// either is written, or unwritten, by whether some script is read as l; it tells which.
func either(t *testing.T, l []api.Node) bool {
	t.Helper()
	if !some(l) {
		unwritten(t, l)
		return false
	}
	written(t, l, plain(l))
	return true
}

// respells holds what Of answers of the script s, and of that, against want, and want against the tests' own words.
func respells(t *testing.T, s, want string) {
	t.Helper()
	for _, script := range []string{s, want} {
		if out, at, e := canon.Of(script); out != want || at != 0 || e != api.OK {
			t.Errorf("Of(%q): %q, %d, %v, not %q", brief(script), brief(out), at, e, brief(want))
		}
	}
	if own := respelt(s); own != want {
		t.Errorf("%q: the tests' own words say %q, not %q", brief(s), brief(own), brief(want))
	}
	written(t, back(s), want)
}

// refused holds what Of answers of s, which is no document, against what is read of it.
func refused(t *testing.T, s string) {
	t.Helper()
	_, place, wrong := read.Of(s)
	if out, at, e := canon.Of(s); out != "" || at != place || e != wrong || e == api.OK {
		t.Errorf("Of(%q): %q, %d, %v, not %d, %v", brief(s), brief(out), at, e, place, wrong)
	}
}

// TestExamples: P7.2, the chapter's examples.
func TestExamples(t *testing.T) {
	if out, at, e := canon.Of("[B2 m 5 (10 2 30 40) # so"); out != "" || at != 25 || e != api.ErrMalformed {
		t.Errorf("%q, %d, %v", out, at, e)
	}
	respells(t, "[B2 m 5 (10 2 30 40)] { 3  4 }", "[m5B2(10 2 30 40)]\n{3 4}\n")
	respells(t, "[o2 w3 m0 <R 1 2>]", "[w3<R1 2>]\n")
	respells(t, "", "")
}

// TestNodes: P7.1, of each kind of nodes, and of none.
func TestNodes(t *testing.T) {
	s := api.Plain()
	written(t, nil, "")
	written(t, row(), "")
	written(t, row(block(1, s)), "[]\n")
	written(t, row(text(1, 0, 1)), "(1 0 1)\n")
	written(t, row(text(9, 8, 7, 6, 5, 4, 6)), "(9 8 7 6 5 4 6)\n")
	written(t, row(text(most, most, most)), "(1099511627776 1099511627776 1099511627776)\n")
	written(t, row(box(3, 40)), "{3 40}\n")
	written(t, row(box(most, 1)), "{1099511627776 1}\n")
	written(t, row(float(1, 1, 2)), "<L1 2>\n")
	written(t, row(float(2, 100, most)), "<R100 1099511627776>\n")
	written(t, row(block(1, s), block(1, s)), "[]\n[]\n")
	written(t, row(block(2, s), block(1, s)), "[[]]\n")
	written(t, row(block(3, s), block(1, s), block(1, s)), "[[][]]\n")
	written(t, row(block(3, s), block(2, s), block(1, s)), "[[[]]]\n")
	written(t, row(block(2, s), box(1, 2), box(3, 4)), "[{1 2}]\n{3 4}\n")
	written(t, row(box(1, 1), float(1, 2, 2), block(5, s), text(1, 0, 1, 2), block(3, s), float(2, 3, 3), box(4, 4), text(5, 5, 5)),
		"{1 1}\n<L2 2>\n[(1 0 1 2)[<R3 3>{4 4}]]\n(5 5 5)\n")
}

// TestAttributes: P7.1, of each letter: a number is told, if it is another than what holds untold.
func TestAttributes(t *testing.T) {
	for i := range len(letters) {
		letter := letters[i : i+1]
		for _, n := range odds() {
			l := told(api.Plain())
			l[i] = n
			b := block(1, style(l...))
			if !some(row(b)) {
				unwritten(t, row(b))
				continue
			}
			want := "["
			if strconv.Itoa(n) != untold(letter) {
				want += letter + strconv.Itoa(n)
			}
			written(t, row(b), want+"]\n")
			b.Size = 2
			written(t, row(b, box(1, 1), float(1, 2, 2)), want+"{1 1}]\n<L2 2>\n")
		}
	}
}

// odds are numbers around all bounds of the chapters.
func odds() []int {
	return []int{
		math.MinInt, -most, -2, -1, 0, 1, 2, 3, 4, 5, 9, 10, 100, 1234567890,
		most - 1, most, most + 1, 1 << 41, math.MaxInt - 1, math.MaxInt,
	}
}

// TestAttributeSets: P7.1 and P7.2, of all sets of letters: they stand in one order, however they are told.
func TestAttributeSets(t *testing.T) {
	other := []string{"3", "1099511627776", "7", "10", "1", "1", "3", "5", "4", "2", "1", "3"}
	for set := range 1 << len(letters) {
		ahead, behind, want := "", "", ""
		for i := range len(letters) {
			letter, n := letters[i:i+1], other[i]
			if set>>i&1 == 0 {
				n = untold(letter)
			}
			switch {
			case set>>i&1 == 1:
				want += letter + n
			case letter == "h" || set%3 == i%3:
				// Of a header 0 can't be told; and others are not, now and then.
				continue
			}
			ahead += letter + n
			behind = letter + " " + n + "\n" + behind
		}
		respells(t, "["+ahead+"]", "["+want+"]\n")
		respells(t, "[ "+behind+" (1 2 3)]", "["+want+"(1 2 3)]\n")
	}
}

// TestStyles: P7.1: blocks say what they say, whatever those around them do.
func TestStyles(t *testing.T) {
	s := func(turn int) api.Style {
		l := make([]int, len(letters))
		for i := range l {
			l[i] = i + turn
		}
		l[8], l[9], l[10], l[11] = turn%5, (turn+1)%5, turn%2, turn%4
		return style(l...)
	}
	written(t, row(block(4, s(1)), block(2, s(2)), block(1, api.Plain()), block(1, s(3)), block(1, s(4))),
		"[m1n2p3q4i5o6w7h8B1A2I1c1[m2n3p4q5i6o7w8h9B2A3c2[]][m3n4p5q6i7o8w9h10B3A4I1c3]]\n[m4n5p6q7i8o9w10h11B4]\n")
}

// TestKinds: P7.1: a node of a kind that is none, or with a number that its kind doesn't name, is no document's.
func TestKinds(t *testing.T) {
	for _, n := range row(block(1, api.Plain()), text(3, 2, 1, 5), box(1, 1), float(1, 1, 1), float(2, 3, 4)) {
		for _, x := range odds() {
			for _, turn := range []func(n *api.Node){
				func(n *api.Node) { n.Kind = x },
				func(n *api.Node) { n.Size = x },
				func(n *api.Node) { n.Style.Orphans = x },
				func(n *api.Node) { n.Line = x },
				func(n *api.Node) { n.Space = x },
				func(n *api.Node) { n.Words = []int{x} },
				func(n *api.Node) { n.Words = []int{1, x, 1} },
				func(n *api.Node) { n.Words = nil },
				func(n *api.Node) { n.Words = []int{} },
				func(n *api.Node) { n.Side = x },
				func(n *api.Node) { n.W = x },
				func(n *api.Node) { n.H = x },
			} {
				odd := n
				turn(&odd)
				either(t, row(odd))
				either(t, row(block(2, api.Plain()), odd))
				either(t, row(box(1, 1), odd, box(1, 1)))
			}
		}
	}
	unwritten(t, make([]api.Node, 1))
}

// rows hands out all rows of long nodes of the kinds l, with all Sizes from least to most.
func rows(long, least, most int, l []api.Node, yield func(l []api.Node)) {
	made := make([]api.Node, long)
	var put func(at int)
	put = func(at int) {
		if at == long {
			yield(made)
			return
		}
		for _, n := range l {
			for n.Size = least; n.Size <= most; n.Size++ {
				made[at] = n
				put(at + 1)
			}
		}
	}
	put(0)
}

// TestSizes: P7.1, of all short rows, whatever their Sizes.
func TestSizes(t *testing.T) {
	are, arent := 0, 0
	count := func(l []api.Node) {
		if either(t, l) {
			are++
		} else {
			arent++
		}
	}
	all := row(block(1, style(3, 0, 0, 0, 0, 2, 1, 0, 0, 0, 0, 1)), text(2, 1, 1, 1), box(1, 5), float(2, 1, 7))
	for long := range 4 {
		rows(long, -1, 4, all, count)
	}
	rows(4, 0, 5, row(block(1, api.Plain()), box(1, 1)), count)
	rows(6, 1, 6, row(block(1, api.Plain())), count)
	if are < 300 || arent < 10000 {
		t.Errorf("%d are documents', and %d are not", are, arent)
	}
}

// scripts hands out scripts of up to long pieces of l.
func scripts(long int, l []string, yield func(s string)) {
	var put func(s string, long int)
	put = func(s string, long int) {
		yield(s)
		if long == 0 {
			return
		}
		for _, piece := range l {
			put(s+piece, long-1)
		}
	}
	put("", long)
}

// signs are all that may stand in a document, and some of what may not.
func signs() []string {
	return []string{"[", "]", "(", ")", "{", "}", "<", ">", "L", "R", "m", "o", " 0", " 2", " 30", "1099511627777", "01", "#", "\n", "x", "\xff"}
}

// wholes are scripts' pieces of which many together are documents.
func wholes() []string {
	return []string{
		"[", "]", "\t[", "] # [\n", "[h3", "[o2", "[q2 B4", "[ B4 q2\n", "[w 2w3", "(4 1 7 7)", "( 4\n1 7  7 )", "(4 1 77)",
		"{2 6}", "{26 1}", "<L 1 1>", "<L1 1>", "<R 9 549755813888>", " ",
	}
}

// TestScripts: P7.2 and P7.5, of all short scripts of signs: the nodes' text, and that of that; or the fault, and its place.
func TestScripts(t *testing.T) {
	are := 0
	check := func(s string) {
		if !read.Is(s) {
			refused(t, s)
			return
		}
		are++
		respells(t, s, respelt(s))
	}
	scripts(4, signs(), check)
	scripts(4, wholes(), check)
	if are < 5000 {
		t.Errorf("only %d scripts are documents", are)
	}
}

// TestWrong: P7.2, of wrong scripts, with their places.
func TestWrong(t *testing.T) {
	for s, at := range map[string]int{
		"]": 0, "[": 1, "(1 1)": 4, "[m1m2]": 3, "{1 2": 4, "{1 2}}": 5, "[]]": 2, "{0 1}": 1, "{01 1}": 1,
		"[h0]": 2, "[B5]": 2, "[]\n[m5\n": 7, "{1 2}é": 5, "{1 2}#\xff": 6, "{1 1099511627777}": 3, "<1 2>": 1,
	} {
		refused(t, s)
		if _, place, e := canon.Of(s); place != at || e != api.ErrMalformed {
			t.Errorf("Of(%q): %d, %v, not %d", s, place, e, at)
		}
	}
}

// documents are those of which all short scripts of wholes are read, each once, with others beside that differ from one another in one number.
func documents() [][]api.Node {
	var l [][]api.Node
	seen := map[string]bool{}
	scripts(3, wholes(), func(s string) {
		if read.Is(s) && !seen[respelt(s)] {
			seen[respelt(s)] = true
			l = append(l, back(s))
		}
	})
	for i := range len(letters) {
		for _, n := range []int{1, 2, 3, 4} {
			x := told(api.Plain())
			x[i] = n
			if b := row(block(1, style(x...))); some(b) && n != 2 {
				l = append(l, b)
			}
		}
	}
	return append(l,
		row(text(12, 3, 4)), row(text(1, 23, 4)), row(text(1, 2, 34)), row(text(1, 2, 3, 4)), row(text(1, 23, 4, 4)),
		row(box(1, 23)), row(box(12, 3)), row(box(123, 1)), row(float(1, 1, 23)), row(float(1, 12, 3)), row(float(2, 12, 3)),
		row(block(1, style(1, 2, 0, 0, 0, 2, 2, 0, 0, 0, 0, 0))), row(block(1, style(12, 0, 0, 0, 0, 2, 2, 0, 0, 0, 0, 0))),
	)
}

// TestThereAndBack: P7.4: of two documents the texts are the same just if the nodes are.
func TestThereAndBack(t *testing.T) {
	l := documents()
	if len(l) < 300 {
		t.Errorf("only %d documents", len(l))
	}
	texts := make([]string, len(l))
	for i, x := range l {
		texts[i], _ = canon.Write(x)
		if again, _, _ := read.Of(texts[i]); !read.Same(x, again) {
			t.Errorf("%q is read as other nodes", texts[i])
		}
	}
	for i, a := range l {
		for j, b := range l {
			if (texts[i] == texts[j]) != read.Same(a, b) {
				t.Errorf("%q and %q: Same says %v", texts[i], texts[j], read.Same(a, b))
			}
		}
	}
}

// TestTogether: P7.1: two documents, one behind the other, have their texts so, and a block has its nodes' texts without LF within it.
func TestTogether(t *testing.T) {
	l := documents()
	for i, a := range l {
		b := l[(i*7+3)%len(l)]
		x, _ := canon.Write(a)
		y, _ := canon.Write(b)
		both := slices.Concat(a, b)
		written(t, both, x+y)
		written(t, slices.Concat(row(block(1+len(both), api.Plain())), both), "["+strings.ReplaceAll(x+y, "\n", "")+"]\n")
	}
}

// TestOnce: P7.5, whatever stands between a script's tokens.
func TestOnce(t *testing.T) {
	for _, s := range []string{
		" # x", "\t\n", "# [\n# ]", "[ ]", "{\n1\n2\n}", "[m1#\nn2]\n\n\n[[\t]\t]", "[c3I1A4B1h9w1o3i5q4p3n2m1]",
		"[m0n0p0q0i0o2w2B0A0I0c0]", "[[]\n[ {1 2}(3 0\t4)]<L 5 6>]", "(1\n0#(\n1)",
	} {
		respells(t, s, respelt(s))
	}
	once, _, _ := canon.Of("[c3I1A4B1h9w1o3i5q4p3n2m1 [m0]]{1 1}")
	twice, at, e := canon.Of(once)
	if once != "[m1n2p3q4i5o3w1h9B1A4I1c3[]]\n{1 1}\n" || twice != once || at != 0 || e != api.OK {
		t.Errorf("%q, then %q, %d, %v", once, twice, at, e)
	}
}

// TestBeyondLimits: P7.1 and P7.2: a document beyond the limits has its text, too.
func TestBeyondLimits(t *testing.T) {
	for _, s := range []string{
		strings.Repeat("{1 1099511627776}\n", 2001),
		strings.Repeat("[", 17) + strings.Repeat("]", 17) + "\n",
		"(1 0" + strings.Repeat(" 1", 2001) + ")\n",
	} {
		respells(t, s, s)
		if valid.Check(back(s)) != api.ErrLimit {
			t.Errorf("%q is within the limits", brief(s))
		}
	}
}

// TestDeep: P7.1 and P7.2 come to their end, however deep and long documents are.
func TestDeep(t *testing.T) {
	const many = 1 << 18
	deep := strings.Repeat("[m1", many) + "{1 2}" + strings.Repeat("]", many)
	for _, s := range []string{deep + "\n", strings.Repeat("[]\n", many), "(1 0" + strings.Repeat(" 1", many) + ")\n", "[" + strings.Repeat("<L1 1>", many) + "]\n"} {
		if out, at, e := canon.Of(s); out != s || at != 0 || e != api.OK {
			t.Errorf("%q: %q, %d, %v", brief(s), brief(out), at, e)
		}
	}
	refused(t, deep+"]")
	refused(t, deep[:len(deep)-1])
	l := back(deep)
	if s, e := canon.Write(l); s != deep+"\n" || e != api.OK {
		t.Errorf("%q, %v", brief(s), e)
	}
	unwritten(t, l[:many])
}

// TestStays: P7.3: what is handed in stays, and the room behind its end, too.
func TestStays(t *testing.T) {
	for _, s := range []string{"", "[m5 (10 2 30 40)[{1 1}]<R 2 3>]", "[[]][](1 0 1 1 1)"} {
		for _, broken := range []bool{false, true} {
			l := append(back(s), box(0, -7), block(9, api.Style{}))
			if !broken {
				l = l[:len(l)-2]
			}
			whole := l[:cap(l)]
			for i := range whole[len(l):] {
				whole[len(l)+i] = text(77, 7, 7)
			}
			for i := range whole {
				whole[i].Words = append(make([]int, 0, 8), whole[i].Words...)
				rest := whole[i].Words[len(whole[i].Words):8]
				for j := range rest {
					rest[j] = 9
				}
			}
			was := copied(whole)
			first, e := canon.Write(l)
			second, f := canon.Write(l)
			if !equal(was, copied(whole)) || first != second || e != f || (e == api.OK) == broken {
				t.Errorf("%q: %v, not %v", s, whole, was)
			}
		}
	}
}

// TestKept: P7.3: a text that was answered stays, whatever is done with the nodes, or asked, then.
func TestKept(t *testing.T) {
	l := back("[m5(10 2 30 40)]{3 4}")
	s, _ := canon.Write(l)
	l[0].Style.Top, l[1].Words[0], l[2].W = 6, 7, 8
	other, _ := canon.Write(l)
	if s != "[m5(10 2 30 40)]\n{3 4}\n" || other != "[m6(10 2 7 40)]\n{8 4}\n" {
		t.Errorf("%q, %q", s, other)
	}
}

// copied is l, with words and the room behind their ends.
func copied(l []api.Node) []api.Node {
	l = slices.Clone(l)
	for i, n := range l {
		l[i].Words = slices.Clone(n.Words[:cap(n.Words)])
	}
	return l
}
