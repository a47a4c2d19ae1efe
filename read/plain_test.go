package read_test

import (
	"slices"
	"strconv"
	"strings"

	"gatefold/api"
	"gatefold/lex"
)

// A rule is one symbol of the chapter's grammar: a sign; numbers from least to most; a document; a text's words; a block's attributes, of which some letters are left.
type rule struct {
	what        string
	sign        rune
	least, most int
	letters     string
}

const letters = "mnpqiowhBAIc"

func signs(s string) []rule {
	var l []rule
	for _, c := range s {
		l = append(l, rule{what: "sign", sign: c})
	}
	return l
}

func numbers(least, most int) rule { return rule{what: "number", least: least, most: most} }

// bounds is which numbers an attribute may have, by the chapter's table.
func bounds(letter byte) rule {
	switch letter {
	case 'm', 'n', 'p', 'q', 'i':
		return numbers(0, api.Max)
	case 'o', 'w', 'h':
		return numbers(1, api.Max)
	case 'B', 'A':
		return numbers(0, 4)
	case 'I':
		return numbers(0, 1)
	}
	return numbers(0, 3)
}

// ways are the rows of symbols that x may be; false: x is a token.
func ways(x rule) ([][]rule, bool) {
	length, nodes, words := numbers(1, api.Max), rule{what: "nodes"}, rule{what: "words"}
	switch x.what {
	case "nodes":
		return [][]rule{
			nil,
			slices.Concat(signs("["), []rule{{what: "attributes", letters: letters}, nodes}, signs("]"), []rule{nodes}),
			slices.Concat(signs("("), []rule{length, numbers(0, api.Max), length, words}, signs(")"), []rule{nodes}),
			slices.Concat(signs("{"), []rule{length, length}, signs("}"), []rule{nodes}),
			slices.Concat(signs("<L"), []rule{length, length}, signs(">"), []rule{nodes}),
			slices.Concat(signs("<R"), []rule{length, length}, signs(">"), []rule{nodes}),
		}, true
	case "words":
		return [][]rule{nil, {length, words}}, true
	case "attributes":
		l := [][]rule{nil}
		for i := range len(x.letters) {
			rest := x.letters[:i] + x.letters[i+1:]
			l = append(l, slices.Concat(signs(x.letters[i:i+1]), []rule{bounds(x.letters[i]), {what: "attributes", letters: rest}}))
		}
		return l, true
	}
	return nil, false
}

// A stack is what must still come, the next one last; hopes are all stacks that may be.
type stack []rule

// eat is the stacks that may be behind the token tok, where s may be ahead of it.
func eat(s stack, tok api.Token) []stack {
	if len(s) == 0 {
		return nil
	}
	x, rest := s[len(s)-1], s[:len(s)-1]
	l, parts := ways(x)
	if !parts {
		if x.what == "sign" && tok.Kind == api.TokSign && tok.Sign == x.sign ||
			x.what == "number" && tok.Kind == api.TokNum && x.least <= tok.N && tok.N <= x.most {
			return []stack{rest}
		}
		return nil
	}
	var all []stack
	for _, way := range l {
		more := slices.Clone(rest)
		for _, y := range slices.Backward(way) {
			more = append(more, y)
		}
		all = append(all, eat(more, tok)...)
	}
	return all
}

// done tells whether nothing more must come.
func done(s stack) bool {
	return !slices.ContainsFunc(s, func(x rule) bool { return x.what == "sign" || x.what == "number" })
}

func start() []stack { return []stack{{rule{what: "nodes"}}} }

func eatAll(hopes []stack, tok api.Token) []stack {
	var next []stack
	for _, s := range hopes {
		next = append(next, eat(s, tok)...)
	}
	return next
}

// fault is the chapter's words of where a script that is tokens goes wrong; false: it is a document.
func fault(l []api.Token, long int) (at int, is bool) {
	hopes := start()
	for _, tok := range l {
		if hopes = eatAll(hopes, tok); len(hopes) == 0 {
			return tok.At, true
		}
	}
	if slices.ContainsFunc(hopes, done) {
		return 0, false
	}
	return long, true
}

// build is the nodes of tokens that are a document, up to a ] that closes more than they open; and what is left.
func build(l []api.Token) (nodes []api.Node, rest []api.Token) {
	for len(l) > 0 && l[0].Sign != ']' {
		var n []api.Node
		switch l[0].Sign {
		case '[':
			n, l = buildBlock(l[1:])
		case '(':
			n = []api.Node{{Kind: 2, Size: 1, Line: l[1].N, Space: l[2].N}}
			for l = l[3:]; l[0].Kind == api.TokNum; l = l[1:] {
				n[0].Words = append(n[0].Words, l[0].N)
			}
		case '{':
			n, l = []api.Node{{Kind: 3, Size: 1, W: l[1].N, H: l[2].N}}, l[3:]
		case '<':
			n, l = []api.Node{{Kind: 4, Size: 1, Side: 1, W: l[2].N, H: l[3].N}}, l[1:]
			if l[0].Sign == 'R' {
				n[0].Side = 2
			}
			l = l[3:]
		}
		nodes, l = append(nodes, n...), l[1:]
	}
	return nodes, l
}

func buildBlock(l []api.Token) (nodes []api.Node, rest []api.Token) {
	b := api.Node{Kind: 1, Style: api.Style{Orphans: 2, Widows: 2}}
	for len(l) > 1 && l[1].Kind == api.TokNum && strings.ContainsRune(letters, l[0].Sign) {
		set(&b.Style, l[0].Sign, l[1].N)
		l = l[2:]
	}
	within, l := build(l)
	b.Size = 1 + len(within)
	return append([]api.Node{b}, within...), l
}

func set(s *api.Style, letter rune, n int) {
	switch letter {
	case 'm':
		s.Top = n
	case 'n':
		s.Bottom = n
	case 'p':
		s.PadTop = n
	case 'q':
		s.PadBottom = n
	case 'i':
		s.Inset = n
	case 'o':
		s.Orphans = n
	case 'w':
		s.Widows = n
	case 'h':
		s.Head = n
	case 'B':
		s.Before = n
	case 'A':
		s.After = n
	case 'I':
		s.Inside = n
	case 'c':
		s.Clear = n
	}
}

// plain is what Of must answer, by the chapter's words.
func plain(s string) answer {
	l, at, e := lex.Of(s)
	if e != api.OK {
		return wrong(at)
	}
	if at, is := fault(l, len(s)); is {
		return wrong(at)
	}
	nodes, _ := build(l)
	return fine(nodes...)
}

// number is n in digits.
func number(n int) string { return strconv.Itoa(n) }
