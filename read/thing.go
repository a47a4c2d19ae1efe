package read

import "gatefold/api"

// thing is one of those that a document is made of.
type thing interface {
	// end is the sign that closes it.
	end() rune
}

type block struct{ style api.Style }

type text struct {
	line, space int
	words       []int
}

type box struct{ w, h int }

type float struct{ side, w, h int }

func (block) end() rune { return ']' }

func (text) end() rune { return ')' }

func (box) end() rune { return '}' }

func (float) end() rune { return '>' }

// node is x alone, as one of a row.
func node(x thing) api.Node {
	n := api.Node{Size: 1}
	if b, is := x.(block); is {
		n.Kind, n.Style = api.KindBlock, b.style
	}
	if t, is := x.(text); is {
		n.Kind, n.Line, n.Space, n.Words = api.KindText, t.line, t.space, t.words
	}
	if b, is := x.(box); is {
		n.Kind, n.W, n.H = api.KindMono, b.w, b.h
	}
	if f, is := x.(float); is {
		n.Kind, n.Side, n.W, n.H = api.KindFloat, f.side, f.w, f.h
	}
	return n
}
