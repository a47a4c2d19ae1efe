package canon

import (
	"strconv"
	"strings"

	"gatefold/api"
)

// writer is the text that has been written.
type writer struct{ strings.Builder }

// begin writes what stands of n ahead of the nodes within it: all but the sign that ends it.
func (w *writer) begin(n *api.Node) {
	switch n.Kind {
	case api.KindBlock:
		w.WriteByte('[')
		w.style(n.Style)
	case api.KindText:
		w.WriteByte('(')
		w.number(n.Line)
		w.numbers(n.Space)
		w.numbers(n.Words...)
	case api.KindMono:
		w.WriteByte('{')
		w.number(n.W)
		w.numbers(n.H)
	case api.KindFloat:
		w.WriteByte('<')
		w.WriteByte(side(n.Side))
		w.number(n.W)
		w.numbers(n.H)
	}
}

// end writes the sign that ends a node of that kind.
func (w *writer) end(kind int) {
	switch kind {
	case api.KindBlock:
		w.WriteByte(']')
	case api.KindText:
		w.WriteByte(')')
	case api.KindMono:
		w.WriteByte('}')
	case api.KindFloat:
		w.WriteByte('>')
	}
}

// style writes the attributes that say of s what no block has that says nothing.
func (w *writer) style(s api.Style) {
	for _, a := range attributes(s) {
		if a.n != a.untold {
			w.WriteByte(a.letter)
			w.number(a.n)
		}
	}
}

// numbers writes l, each with a blank ahead.
func (w *writer) numbers(l ...int) {
	for _, n := range l {
		w.WriteByte(' ')
		w.number(n)
	}
}

func (w *writer) number(n int) { w.WriteString(strconv.Itoa(n)) }

func side(bit int) byte {
	if bit == api.SideLeft {
		return 'L'
	}
	return 'R'
}

// attribute is a part of a style: its letter, its number, and the one that holds if it is not told.
type attribute struct {
	letter    byte
	n, untold int
}

// attributes are the parts of s, in the order in which they are told.
func attributes(s api.Style) [12]attribute {
	plain := api.Plain()
	return [12]attribute{
		{'m', s.Top, plain.Top},
		{'n', s.Bottom, plain.Bottom},
		{'p', s.PadTop, plain.PadTop},
		{'q', s.PadBottom, plain.PadBottom},
		{'i', s.Inset, plain.Inset},
		{'o', s.Orphans, plain.Orphans},
		{'w', s.Widows, plain.Widows},
		{'h', s.Head, plain.Head},
		{'B', s.Before, plain.Before},
		{'A', s.After, plain.After},
		{'I', s.Inside, plain.Inside},
		{'c', s.Clear, plain.Clear},
	}
}
