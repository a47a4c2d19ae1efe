package read

import "gatefold/api"

// tokens are those of a script that are left. One is taken only where it may stand, and none behind one that may not: so the first one that is left then is the fault.
type tokens struct {
	left  []api.Token
	size  int // the script's
	wrong bool
}

// more tells whether there is a token that may be taken.
func (t *tokens) more() bool { return !t.wrong && len(t.left) > 0 }

// at is where what is left begins.
func (t *tokens) at() int {
	if len(t.left) == 0 {
		return t.size
	}
	return t.left[0].At
}

// sign takes the sign c, if it comes next.
func (t *tokens) sign(c rune) bool {
	if !t.more() || t.left[0].Kind != api.TokSign || t.left[0].Sign != c {
		return false
	}
	t.left = t.left[1:]
	return true
}

// must takes the sign c, with which alone it may go on.
func (t *tokens) must(c rune) {
	if !t.sign(c) {
		t.wrong = true
	}
}

// number takes a number from least to most, with which alone it may go on.
func (t *tokens) number(least, most int) int {
	if !t.more() || t.left[0].Kind != api.TokNum || t.left[0].N < least || t.left[0].N > most {
		t.wrong = true
		return 0
	}
	n := t.left[0].N
	t.left = t.left[1:]
	return n
}

// length takes a number from 1 on.
func (t *tokens) length() int { return t.number(1, api.Max) }
