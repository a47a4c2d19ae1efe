package margin_test

import (
	"math"
	"slices"

	"gatefold/api"
)

// far is the greatest number of which the chapter speaks.
const far = 1 << 50

func pen(y, m int) api.Pen { return api.Pen{Y: y, M: m} }

func enter(margin, pad int) api.Step { return api.Step{Kind: api.StepEnter, A: margin, B: pad} }

func leave(margin, pad int) api.Step { return api.Step{Kind: api.StepLeave, A: margin, B: pad} }

func low(y int) api.Step { return api.Step{Kind: api.StepClear, A: y} }

func put(high int) api.Step { return api.Step{Kind: api.StepPut, A: high} }

// plain is a pen by the chapter's words: it keeps all margins below its y, and takes the greatest one only where it is asked for its place.
type plain struct {
	y       int
	margins []int
	at      []int
}

// from is a plain pen that stands as p does.
func from(p api.Pen) plain { return plain{y: p.Y, margins: []int{p.M}} }

// margin is what is not yet set.
func (p plain) margin() int { return slices.Max(p.margins) }

// set makes y the pen's y.
func (p plain) set(y int) plain {
	p.y, p.margins = y, []int{0}
	return p
}

// more keeps a margin more.
func (p plain) more(margin int) plain {
	p.margins = append(slices.Clone(p.margins), margin)
	return p
}

// step is p behind the step s.
func (p plain) step(s api.Step) plain {
	place := p.y + p.margin()
	switch {
	case s.Kind == 1 && s.B > 0:
		p = p.more(s.A)
		return p.set(p.y + p.margin() + s.B)
	case s.Kind == 1:
		return p.more(s.A)
	case s.Kind == 2 && s.B > 0:
		return p.set(place + s.B).more(s.A)
	case s.Kind == 2:
		return p.more(s.A)
	case s.Kind == 3 && place < s.A:
		return p.set(s.A)
	case s.Kind == 4:
		p.at = append(slices.Clone(p.at), place)
		return p.set(place + s.A)
	}
	return p
}

// pen is p as it is answered.
func (p plain) pen() api.Pen { return pen(p.y, p.margin()) }

// run is, by the chapter's words, p behind all steps of l, and where they put what they put.
func run(p api.Pen, l []api.Step) (end api.Pen, at []int) {
	w := from(p)
	for _, s := range l {
		w = w.step(s)
	}
	return w.pen(), w.at
}

// pens are all with these numbers.
func pens(ys, ms []int) []api.Pen {
	var l []api.Pen
	for _, y := range ys {
		for _, m := range ms {
			l = append(l, pen(y, m))
		}
	}
	return l
}

// steps are all of these kinds with these numbers.
func steps(kinds, as, bs []int) []api.Step {
	var l []api.Step
	for _, kind := range kinds {
		for _, a := range as {
			for _, b := range bs {
				l = append(l, api.Step{Kind: kind, A: a, B: b})
			}
		}
	}
	return l
}

// rows hands out all rows of up to long of these steps.
func rows(long int, of []api.Step, yield func(l []api.Step)) {
	made := make([]api.Step, 0, long)
	var grow func()
	grow = func() {
		yield(made[:len(made):len(made)])
		if len(made) == long {
			return
		}
		for _, s := range of {
			made = append(made, s)
			grow()
			made = made[:len(made)-1]
		}
	}
	grow()
}

// eachRun hands out pens, and rows of steps from each: short ones with all numbers around 0, and longer ones with few.
func eachRun(yield func(p api.Pen, l []api.Step)) {
	for _, f := range []struct {
		long  int
		pens  []api.Pen
		steps []api.Step
	}{
		{
			long:  2,
			pens:  pens([]int{-4, -1, 0, 1, 3}, []int{-3, -1, 0, 1, 2, 5}),
			steps: steps([]int{-1, 0, 1, 2, 3, 4, 5, 9}, []int{-4, -1, 0, 1, 2, 3, 6}, []int{-1, 0, 1, 3}),
		},
		{
			long:  5,
			pens:  []api.Pen{{}, pen(-2, 3), pen(4, -1)},
			steps: []api.Step{enter(3, 0), enter(5, 2), leave(4, 0), leave(1, 1), low(9), put(6), put(0), {Kind: 7, A: 8, B: 8}},
		},
	} {
		rows(f.long, f.steps, func(l []api.Step) {
			for _, p := range f.pens {
				yield(p, l)
			}
		})
	}
}

// odds are numbers around all bounds of the chapter, and of the machine.
func odds() []int {
	return []int{
		math.MinInt, math.MinInt + 1, -1 << 62, -far - 1, -far, -100, -1,
		0, 1, 2, 3, 4, 5, 100, far, far + 1, 1 << 62, math.MaxInt - 1, math.MaxInt,
	}
}
