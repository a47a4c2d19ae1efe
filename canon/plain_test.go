package canon_test

import (
	"reflect"
	"slices"
	"strconv"
	"strings"

	"gatefold/api"
	"gatefold/lex"
	"gatefold/read"
)

const letters = "mnpqiowhBAIc"

// told is the numbers of s, in the order of letters.
func told(s api.Style) []int {
	return []int{s.Top, s.Bottom, s.PadTop, s.PadBottom, s.Inset, s.Orphans, s.Widows, s.Head, s.Before, s.After, s.Inside, s.Clear}
}

// style is the one that has the numbers l, in the order of letters.
func style(l ...int) api.Style {
	return api.Style{Top: l[0], Bottom: l[1], PadTop: l[2], PadBottom: l[3], Inset: l[4], Orphans: l[5], Widows: l[6], Head: l[7], Before: l[8], After: l[9], Inside: l[10], Clear: l[11]}
}

// untold is the number that holds if a letter is not told.
func untold(letter string) string {
	if letter == "o" || letter == "w" {
		return "2"
	}
	return "0"
}

// plain is the canonical text of l, a document's nodes, by the chapter's words.
func plain(l []api.Node) string {
	return strings.Join(lines(l), "")
}

func lines(l []api.Node) []string {
	var all []string
	for _, n := range nodes(l) {
		all = append(all, n+"\n")
	}
	return all
}

// nodes are the canonical texts of those of l that stand in no other.
func nodes(l []api.Node) []string {
	var all []string
	for len(l) > 0 {
		n := l[0]
		all = append(all, one(n, l[1:n.Size]))
		l = l[n.Size:]
	}
	return all
}

// one is the canonical text of n, which has within within it.
func one(n api.Node, within []api.Node) string {
	switch n.Kind {
	case api.KindBlock:
		s := "["
		for i, x := range told(n.Style) {
			letter := letters[i : i+1]
			if strconv.Itoa(x) != untold(letter) {
				s += letter + strconv.Itoa(x)
			}
		}
		return s + strings.Join(nodes(within), "") + "]"
	case api.KindText:
		return "(" + spaced(append([]int{n.Line, n.Space}, n.Words...)) + ")"
	case api.KindMono:
		return "{" + spaced([]int{n.W, n.H}) + "}"
	}
	return "<" + "?LR"[n.Side:n.Side+1] + spaced([]int{n.W, n.H}) + ">"
}

func spaced(l []int) string {
	var all []string
	for _, n := range l {
		all = append(all, strconv.Itoa(n))
	}
	return strings.Join(all, " ")
}

// respelt is the canonical text of the script s, a document, by its tokens alone, with no look at nodes: without what is no token or tells nothing new, and with each block's letters in order.
func respelt(s string) string {
	l, _, _ := lex.Of(s)
	var b strings.Builder
	deep := 0
	for i := 0; i < len(l); i++ {
		if l[i].Kind == api.TokNum {
			if l[i-1].Kind == api.TokNum {
				b.WriteString(" ")
			}
			b.WriteString(strconv.Itoa(l[i].N))
			continue
		}
		sign := string(l[i].Sign)
		b.WriteString(sign)
		switch sign {
		case "[":
			deep++
			numbers := map[string]string{}
			for strings.ContainsRune(letters, l[i+1].Sign) {
				numbers[string(l[i+1].Sign)] = strconv.Itoa(l[i+2].N)
				i += 2
			}
			for _, letter := range strings.Split(letters, "") {
				if n := numbers[letter]; n != "" && n != untold(letter) {
					b.WriteString(letter + n)
				}
			}
		case "]":
			deep--
		}
		if deep == 0 && strings.Contains("])}>", sign) {
			b.WriteString("\n")
		}
	}
	return b.String()
}

// some tells, by the chapters' words, whether l is a document's: whether some script is read as it. Where it isn't, plain may not be asked.
func some(l []api.Node) bool {
	return fits(l) && equal(l, back(plain(l)))
}

// fits tells whether Sizes and Sides are such that plain may be asked.
func fits(l []api.Node) bool {
	for len(l) > 0 {
		n := l[0]
		if n.Size < 1 || n.Size > len(l) || n.Side < 0 || n.Side > 2 || !fits(l[1:n.Size]) {
			return false
		}
		l = l[n.Size:]
	}
	return true
}

// back is the nodes as which s is read; of what is no document a node of no kind.
func back(s string) []api.Node {
	l, _, e := read.Of(s)
	if e != api.OK {
		return []api.Node{{Kind: -7}}
	}
	return l
}

// equal tells whether a and b are the same, all that there is of a node; an empty list is as good as nil.
func equal(a, b []api.Node) bool {
	return slices.EqualFunc(a, b, func(x, y api.Node) bool {
		return slices.Equal(x.Words, y.Words) && reflect.DeepEqual(wordless(x), wordless(y))
	})
}

func wordless(n api.Node) api.Node {
	n.Words = nil
	return n
}
