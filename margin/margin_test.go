package margin_test

import (
	"slices"
	"testing"

	"gatefold/api"
	"gatefold/margin"
)

// runs holds the pen behind the steps, and where they put what they put, against what is asked.
func runs(t *testing.T, p api.Pen, l []api.Step, end api.Pen, at ...int) {
	t.Helper()
	if e, a := margin.Run(p, l...); e != end || !slices.Equal(a, at) {
		t.Fatalf("Run(%v, %v): %v, %v, not %v, %v", p, l, e, a, end, at)
	}
}

// one is p behind the step s, by the call of its kind.
func one(p api.Pen, s api.Step) api.Pen {
	switch s.Kind {
	case api.StepEnter:
		return margin.Enter(p, s.A, s.B)
	case api.StepLeave:
		return margin.Leave(p, s.A, s.B)
	case api.StepClear:
		return margin.Clear(p, s.A)
	case api.StepPut:
		return margin.Put(p, margin.At(p), s.A)
	}
	return p
}

// moves holds p behind each step against what is asked, by the call of the step's kind and by Run.
func moves(t *testing.T, p api.Pen, s api.Step, want api.Pen) {
	t.Helper()
	if got := one(p, s); got != want {
		t.Fatalf("%v behind %v: %v, not %v", p, s, got, want)
	}
	if got, _ := margin.Run(p, s); got != want {
		t.Fatalf("Run(%v, %v): %v, not %v", p, s, got, want)
	}
}

// TestExamples: P13.2 and P13.3, the chapter's examples.
func TestExamples(t *testing.T) {
	runs(t, pen(0, 0), []api.Step{enter(5, 0), put(10), leave(7, 0), enter(3, 0), put(1)}, pen(23, 0), 5, 22)
	moves(t, pen(0, 4), enter(3, 2), pen(6, 0))
	moves(t, pen(0, 4), enter(9, 0), pen(0, 9))
	moves(t, pen(10, 4), leave(3, 2), pen(16, 3))
	moves(t, pen(10, 4), low(14), pen(10, 4))
	moves(t, pen(10, 4), low(15), pen(15, 0))
}

// TestAt: P13.1.
func TestAt(t *testing.T) {
	for y := -20; y <= 20; y++ {
		for m := -20; m <= 20; m++ {
			want := y
			for range max(m, 0) {
				want++
			}
			for range max(-m, 0) {
				want--
			}
			if at := margin.At(pen(y, m)); at != want {
				t.Fatalf("At(%d, %d): %d, not %d", y, m, at, want)
			}
		}
	}
	for _, c := range []struct{ y, m, at int }{
		{far, 0, far}, {far, far, 2 * far}, {far, -far, 0}, {-far, 0, -far}, {-far, -far, -2 * far}, {far - 1, 1 - far, 0},
	} {
		if at := margin.At(pen(c.y, c.m)); at != c.at {
			t.Errorf("At(%d, %d): %d, not %d", c.y, c.m, at, c.at)
		}
	}
}

// TestSteps: P13.2, of all pens and steps with small numbers.
func TestSteps(t *testing.T) {
	var small []int
	for n := -4; n <= 5; n++ {
		small = append(small, n)
	}
	for _, p := range pens(small, small) {
		for _, s := range steps([]int{1, 2, 3, 4}, small, small) {
			moves(t, p, s, from(p).step(s).pen())
		}
	}
}

// TestStepEdges: P13.2, where something just is more, or just isn't.
func TestStepEdges(t *testing.T) {
	for _, c := range []struct {
		p    api.Pen
		s    api.Step
		want api.Pen
	}{
		// A margin that is less, as much, and more by one: at a beginning, and at an end.
		{pen(10, 4), enter(3, 0), pen(10, 4)},
		{pen(10, 4), enter(4, 0), pen(10, 4)},
		{pen(10, 4), enter(5, 0), pen(10, 5)},
		{pen(10, 4), leave(3, 0), pen(10, 4)},
		{pen(10, 4), leave(4, 0), pen(10, 4)},
		{pen(10, 4), leave(5, 0), pen(10, 5)},
		// A padding of 1 sets the margin; of 0, or less, it is none.
		{pen(10, 4), enter(3, 1), pen(15, 0)},
		{pen(10, 4), enter(5, 1), pen(16, 0)},
		{pen(10, 4), enter(5, -1), pen(10, 5)},
		{pen(10, 4), enter(5, -far), pen(10, 5)},
		{pen(10, 4), leave(3, 1), pen(15, 3)},
		{pen(10, 4), leave(5, 1), pen(15, 5)},
		{pen(10, 4), leave(5, -1), pen(10, 5)},
		{pen(10, 4), leave(5, -far), pen(10, 5)},
		// A block's margin is outside its padding: above it at the beginning, below it at the end.
		{pen(0, 0), enter(7, 2), pen(9, 0)},
		{pen(0, 0), leave(7, 2), pen(2, 7)},
		// Margins that are less than nothing: no margin is more than one of those, and less than none.
		{pen(10, -4), enter(-5, 0), pen(10, -4)},
		{pen(10, -4), enter(-3, 0), pen(10, -3)},
		{pen(10, -4), enter(0, 0), pen(10, 0)},
		{pen(10, -4), enter(-3, 2), pen(9, 0)},
		{pen(10, 0), enter(-3, 0), pen(10, 0)},
		{pen(10, -4), leave(-3, 0), pen(10, -3)},
		{pen(10, -4), leave(-3, 2), pen(8, 0)},
		{pen(10, 4), leave(-3, 2), pen(16, 0)},
		// What is low is held against the place, not against Y; it doesn't keep the margin.
		{pen(10, 4), low(10), pen(10, 4)},
		{pen(10, 4), low(11), pen(10, 4)},
		{pen(10, 4), low(13), pen(10, 4)},
		{pen(10, 4), low(-far), pen(10, 4)},
		{pen(10, 4), low(far), pen(far, 0)},
		{pen(10, 0), low(10), pen(10, 0)},
		{pen(10, 0), low(11), pen(11, 0)},
		{pen(10, -4), low(6), pen(10, -4)},
		{pen(10, -4), low(7), pen(7, 0)},
		{pen(-10, 4), low(-6), pen(-10, 4)},
		{pen(-10, 4), low(-5), pen(-5, 0)},
		// Something that isn't high sets the margin all the same.
		{pen(10, 4), put(0), pen(14, 0)},
		{pen(10, 4), put(1), pen(15, 0)},
		{pen(10, 4), put(-20), pen(-6, 0)},
		{pen(10, -4), put(3), pen(9, 0)},
	} {
		moves(t, c.p, c.s, c.want)
	}
}

// TestPut: P13.2: where the pen was doesn't count, nor whether it is put above that.
func TestPut(t *testing.T) {
	small := []int{-7, -1, 0, 1, 2, 30}
	for _, p := range pens(small, small) {
		for _, at := range []int{-far, -9, 0, 4, 14, 31, far} {
			for _, high := range []int{-3, 0, 1, 6, far} {
				if got := margin.Put(p, at, high); got != pen(at+high, 0) {
					t.Fatalf("Put(%v, %d, %d): %v", p, at, high, got)
				}
			}
		}
	}
}

// TestRun: P13.3, of all rows of steps of the fields.
func TestRun(t *testing.T) {
	eachRun(func(p api.Pen, l []api.Step) {
		end, at := run(p, l)
		runs(t, p, l, end, at...)
	})
}

// TestStepByStep: P13.3: a run is its steps' calls, one behind the other; what is put stands at the pen's place.
func TestStepByStep(t *testing.T) {
	eachRun(func(p api.Pen, l []api.Step) {
		end := p
		var at []int
		for _, s := range l {
			if s.Kind == api.StepPut {
				at = append(at, margin.At(end))
			}
			end = one(end, s)
		}
		runs(t, p, l, end, at...)
	})
}

// TestRunEdges: P13.3, margins that meet, and such as something parts.
func TestRunEdges(t *testing.T) {
	for _, c := range []struct {
		l   []api.Step
		end api.Pen
		at  []int
	}{
		// An empty block's margins are one, with those around; its padding, however small, parts them.
		{[]api.Step{put(1), leave(2, 0), enter(5, 0), leave(3, 0), enter(4, 0), put(1)}, pen(7, 0), []int{0, 6}},
		{[]api.Step{put(1), leave(2, 0), enter(5, 1), leave(3, 0), enter(4, 0), put(1)}, pen(12, 0), []int{0, 11}},
		{[]api.Step{put(1), leave(2, 0), enter(5, 0), leave(3, 1), enter(4, 0), put(1)}, pen(12, 0), []int{0, 11}},
		{[]api.Step{put(1), leave(2, 0), enter(5, 1), leave(3, 1), enter(4, 0), put(1)}, pen(13, 0), []int{0, 12}},
		// So does something 0 high.
		{[]api.Step{put(1), leave(2, 0), enter(5, 0), put(0), leave(3, 0), enter(4, 0), put(1)}, pen(11, 0), []int{0, 6, 10}},
		// Blocks within blocks: the outer one's margin goes through, but for its padding.
		{[]api.Step{enter(3, 0), enter(7, 0), put(2), leave(7, 0), leave(3, 0), put(1)}, pen(17, 0), []int{7, 16}},
		{[]api.Step{enter(3, 2), enter(7, 0), put(2), leave(7, 0), leave(3, 2), put(1)}, pen(27, 0), []int{12, 26}},
		// What clears sets the margin, but only if it goes down.
		{[]api.Step{put(1), leave(6, 0), low(7), enter(4, 0), put(1)}, pen(8, 0), []int{0, 7}},
		{[]api.Step{put(1), leave(6, 0), low(8), enter(4, 0), put(1)}, pen(13, 0), []int{0, 12}},
		// What is put is told, not what isn't; nothing put at one place is told twice.
		{[]api.Step{put(0), put(0), put(3), put(0)}, pen(3, 0), []int{0, 0, 0, 3}},
		{[]api.Step{enter(3, 2), leave(4, 5), low(100)}, pen(100, 0), nil},
		{[]api.Step{enter(3, 2), leave(4, 5)}, pen(10, 4), nil},
	} {
		runs(t, pen(0, 0), c.l, c.end, c.at...)
	}
}

// TestNothing: P13.3: no steps, and steps of other kinds, move nothing and put nothing.
func TestNothing(t *testing.T) {
	for _, p := range pens(odds(), odds()) {
		runs(t, p, nil, p)
		runs(t, p, []api.Step{}, p)
		for _, kind := range odds() {
			if kind < 1 || kind > 4 {
				runs(t, p, []api.Step{{Kind: kind, A: 7, B: 8}}, p)
			}
		}
	}
	for _, n := range odds() {
		l := []api.Step{enter(5, 0), {Kind: 0, A: n, B: n}, put(10), {Kind: 5, A: n, B: n}, {Kind: -1, A: n, B: n}, leave(7, 0), {Kind: 1 << 40, A: n, B: n}, put(1)}
		runs(t, pen(0, 0), l, pen(23, 0), 5, 22)
	}
}

// TestOnlyItsOwn: P13.2 and P13.3: of a step that clears or puts, B doesn't count.
func TestOnlyItsOwn(t *testing.T) {
	for _, b := range odds() {
		l := []api.Step{{Kind: api.StepPut, A: 10, B: b}, leave(7, 0), {Kind: api.StepClear, A: 17, B: b}, {Kind: api.StepPut, A: 1, B: b}, {Kind: api.StepClear, A: 19, B: b}}
		runs(t, pen(0, 5), l, pen(23, 0), 5, 22)
		l[4].A = 24
		runs(t, pen(0, 5), l, pen(24, 0), 5, 22)
	}
}

// TestStays: P13.4 and R3: the steps don't change, nor the room behind them, and what stands in that room doesn't count.
func TestStays(t *testing.T) {
	all := []api.Step{
		enter(5, -1), {Kind: api.StepPut, A: 10, B: 9}, leave(7, 0), {Kind: 7, A: 6, B: 5}, enter(3, 2),
		{Kind: api.StepClear, A: 40, B: 9}, {Kind: api.StepClear, A: 8, B: 9}, put(1), put(3), leave(4, 0),
	}
	was := slices.Clone(all)
	for to := range len(all) + 1 {
		p := pen(3, 1)
		end, at := run(p, was[:to])
		runs(t, p, all[:to], end, at...)
		if !slices.Equal(all, was) || p != pen(3, 1) {
			t.Fatalf("up to %d: now %v, %v", to, all, p)
		}
	}
}

// TestNew: P13.4 and R3: what is answered is new memory, each time.
func TestNew(t *testing.T) {
	l := []api.Step{enter(5, 0), put(10), leave(7, 0), enter(3, 0), put(1), put(2)}
	_, at := margin.Run(pen(0, 0), l...)
	_, other := margin.Run(pen(0, 0), l...)
	clear(at[:cap(at)])
	clear(l)
	if !slices.Equal(other, []int{5, 22, 23}) {
		t.Errorf("now %v", other)
	}
}

// TestSame: R5: what was asked ahead doesn't show.
func TestSame(t *testing.T) {
	l := []api.Step{enter(5, 0), put(10), leave(7, 0), enter(3, 0), put(1)}
	for _, n := range odds() {
		for kind := range 6 {
			one(pen(n, n), api.Step{Kind: kind, A: n, B: n})
			margin.Run(pen(n, n), api.Step{Kind: kind, A: n, B: n}, put(n))
		}
		moves(t, pen(10, 4), leave(3, 2), pen(16, 3))
		runs(t, pen(0, 0), l, pen(23, 0), 5, 22)
	}
}

// TestCollapsed: P13.5: what is put behind beginnings and ends without paddings stands below Y by the greatest of all margins; their order, and how many there are of each, makes no difference.
func TestCollapsed(t *testing.T) {
	bare := steps([]int{1, 2}, []int{-2, 0, 1, 2, 5}, []int{-1, 0})
	for _, p := range pens([]int{-3, 0, 4}, []int{-4, 0, 1, 3, 6}) {
		rows(3, bare, func(l []api.Step) {
			greatest := p.M
			for _, s := range l {
				greatest = max(greatest, s.A)
			}
			l = append(l, put(2))
			runs(t, p, l, pen(p.Y+greatest+2, 0), p.Y+greatest)
			turned := slices.Clone(l[:len(l)-1])
			slices.Reverse(turned)
			runs(t, p, slices.Concat(turned, turned, l), pen(p.Y+greatest+2, 0), p.Y+greatest)
			runs(t, p, []api.Step{enter(greatest, 0), put(2)}, pen(p.Y+greatest+2, 0), p.Y+greatest)
		})
	}
}

// TestMoved: P13.6: from a pen that is lower, past what is low likewise, all is as much lower.
func TestMoved(t *testing.T) {
	for _, down := range []int{-far, -1, 3, far} {
		eachRun(func(p api.Pen, l []api.Step) {
			end, at := margin.Run(p, l...)
			lower := slices.Clone(l)
			for i, s := range lower {
				if s.Kind == api.StepClear {
					lower[i].A += down
				}
			}
			end.Y += down
			for i := range at {
				at[i] += down
			}
			runs(t, pen(p.Y+down, p.M), lower, end, at...)
		})
	}
}

// TestDown: P13.7: of margins, paddings and heights from 0 on, places never rise, step by step, nor those at which something is put.
func TestDown(t *testing.T) {
	eachRun(func(p api.Pen, l []api.Step) {
		if slices.ContainsFunc(l, func(s api.Step) bool { return s.Kind != api.StepClear && (s.A < 0 || s.B < 0) }) {
			return
		}
		for to := range l {
			ahead, _ := margin.Run(p, l[:to]...)
			behind, at := margin.Run(p, l[:to+1]...)
			if margin.At(behind) < margin.At(ahead) || !slices.IsSorted(at) {
				t.Fatalf("%v, %v: %v behind %v, %v", p, l[:to+1], behind, ahead, at)
			}
			if len(at) > 0 && (at[0] < margin.At(p) || at[len(at)-1] > margin.At(behind)) {
				t.Fatalf("%v, %v: at %v, up to %v", p, l[:to+1], at, behind)
			}
		}
	})
}

// TestFar: P13.2, P13.3 and R6: as far out as the chapter speaks of, all is as with small numbers.
func TestFar(t *testing.T) {
	const n = far / 8
	numbers := []int{-8, -3, 0, 1, 8}
	few := steps([]int{1, 2, 3, 4, 5}, numbers, []int{-8, 0, 8})
	for _, p := range pens(numbers, numbers) {
		rows(2, few, func(l []api.Step) {
			end, at := run(p, l)
			great := slices.Clone(l)
			for i, s := range l {
				great[i] = api.Step{Kind: s.Kind, A: s.A * n, B: s.B * n}
			}
			for i := range at {
				at[i] *= n
			}
			runs(t, pen(p.Y*n, p.M*n), great, pen(end.Y*n, end.M*n), at...)
		})
	}
}

// TestFarEdges: P13.2 and R6, one unit off the last numbers that the chapter speaks of.
func TestFarEdges(t *testing.T) {
	moves(t, pen(far, far), enter(far, far), pen(3*far, 0))
	moves(t, pen(far, far-1), enter(far, 0), pen(far, far))
	moves(t, pen(far, far-1), enter(far, 1), pen(2*far+1, 0))
	moves(t, pen(far, far), leave(far, far), pen(3*far, far))
	moves(t, pen(far, far-1), leave(far, 1), pen(2*far, far))
	moves(t, pen(-far, -far), enter(-far, 1), pen(-2*far+1, 0))
	moves(t, pen(-far, -far), enter(1-far, 0), pen(-far, 1-far))
	moves(t, pen(-far, 2*far), low(far), pen(-far, 2*far))
	moves(t, pen(-far, 2*far-1), low(far), pen(far, 0))
	moves(t, pen(far, far), put(far), pen(3*far, 0))
	moves(t, pen(-far, -far), put(-far), pen(-3*far, 0))
}

// TestMany: P13.3 and P13.5, of many steps.
func TestMany(t *testing.T) {
	const many = 100_000
	var l []api.Step
	var want []int
	at := 0
	for i := range many {
		k := i * 7919 % many // 7919 and many share no factor: each k once
		l = append(l, enter(k, 0), leave(many-k, 0), put(i%3))
		at += max(k, many-k)
		want = append(want, at)
		at += i % 3
	}
	runs(t, pen(0, 0), l, pen(at, 0), want...)
	l = l[:0]
	for i := range many {
		l = append(l, enter(i, 0), leave(many-i, 0))
	}
	runs(t, pen(5, 0), l, pen(5, many))
}

// TestBeyond: R1: of numbers that the chapter doesn't speak of calls come to an end.
func TestBeyond(t *testing.T) {
	for _, p := range pens(odds(), odds()) {
		margin.At(p)
		for _, s := range steps(odds(), odds(), odds()) {
			one(p, s)
			margin.Put(p, s.A, s.B)
			if _, at := margin.Run(p, s, s, put(s.A)); len(at) != 1 && s.Kind != api.StepPut {
				t.Fatalf("%v, %v: %v", p, s, at)
			}
		}
	}
}
