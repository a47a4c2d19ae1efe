package bands_test

import (
	"slices"
	"testing"

	"gatefold/api"
	"gatefold/bands"
	"gatefold/span"
)

// two are the floats of the chapter's examples.
func two() []api.Floater {
	return []api.Floater{left(0, 0, 30, 20), right(80, 10, 20, 40)}
}

// is holds what was answered, and whether anything was, against what is asked.
func is(t *testing.T, what string, n int, ok bool, want int, some bool) {
	t.Helper()
	if n != want || ok != some {
		t.Fatalf("%s: %d, %v, not %d, %v", what, n, ok, want, some)
	}
}

// TestExamples: P10.1, P10.2 and P10.3, the chapter's examples.
func TestExamples(t *testing.T) {
	in := sp(0, 100)
	for _, c := range []struct {
		s    strip
		band api.Span
		next int
	}{
		{strip{0, 10}, sp(30, 100), 20},
		{strip{0, 11}, sp(30, 80), 20},
		{strip{20, 5}, sp(0, 80), 50},
		{strip{50, 1}, sp(0, 100), 0},
	} {
		if band := bands.Of(two(), c.s.y, c.s.high, in); band != c.band {
			t.Errorf("Of, %v: %v, not %v", c.s, band, c.band)
		}
		n, ok := bands.Next(two(), c.s.y, c.s.high, in)
		is(t, "Next", n, ok, c.next, c.next > 0)
	}
	n, ok := bands.Lowest(two(), 1)
	is(t, "Lowest of 1", n, ok, 20, true)
	n, ok = bands.Lowest(two(), 3)
	is(t, "Lowest of 3", n, ok, 50, true)
	n, ok = bands.Lowest(two(), 0)
	is(t, "Lowest of 0", n, ok, 0, false)
	n, ok = bands.Top(two())
	is(t, "Top", n, ok, 10, true)
}

// TestOf: P10.1, of all rows, strips and spans of the fields.
func TestOf(t *testing.T) {
	each(func(l []api.Floater, s strip, in api.Span) {
		if band, want := bands.Of(l, s.y, s.high, in), leaves(met(l, s), in); band != want {
			t.Fatalf("Of(%v, %v, %v): %v, not %v", l, s, in, band, want)
		}
	})
}

// TestNext: P10.2, of all rows, strips and spans of the fields.
func TestNext(t *testing.T) {
	each(func(l []api.Floater, s strip, in api.Span) {
		n, ok := bands.Next(l, s.y, s.high, in)
		if want, some := next(l, s, in); n != want || ok != some {
			t.Fatalf("Next(%v, %v, %v): %d, %v, not %d, %v", l, s, in, n, ok, want, some)
		}
	})
}

// TestEdges: P10.1 and P10.2, where a float just meets a strip, or just narrows a band.
func TestEdges(t *testing.T) {
	in := sp(40, 60)
	for i, c := range []struct {
		l    []api.Floater
		s    strip
		in   api.Span
		band api.Span
		next int
		ok   bool
	}{
		// A strip and a float that touch don't meet.
		{[]api.Floater{left(0, 5, 50, 5)}, strip{4, 1}, in, in, 0, false},
		{[]api.Floater{left(0, 5, 50, 5)}, strip{4, 2}, in, sp(50, 60), 10, true},
		{[]api.Floater{left(0, 5, 50, 5)}, strip{9, 1}, in, sp(50, 60), 10, true},
		{[]api.Floater{left(0, 5, 50, 5)}, strip{10, 1}, in, in, 0, false},
		// A strip is 1 high at least.
		{[]api.Floater{left(0, 5, 50, 5)}, strip{5, 0}, in, sp(50, 60), 10, true},
		{[]api.Floater{left(0, 5, 50, 5)}, strip{5, -far}, in, sp(50, 60), 10, true},
		{[]api.Floater{left(0, 5, 50, 5)}, strip{4, 0}, in, in, 0, false},
		{[]api.Floater{left(0, 5, 50, 5)}, strip{10, -3}, in, in, 0, false},
		// What ends at the span's edge doesn't narrow it, what goes on by one does.
		{[]api.Floater{left(0, 0, 40, 9)}, strip{3, 3}, in, in, 0, false},
		{[]api.Floater{left(0, 0, 41, 9)}, strip{3, 3}, in, sp(41, 60), 9, true},
		{[]api.Floater{right(60, 0, 40, 9)}, strip{3, 3}, in, in, 0, false},
		{[]api.Floater{right(59, 0, 40, 9)}, strip{3, 3}, in, sp(40, 59), 9, true},
		// No height of a float that has none, or less, is in a strip.
		{[]api.Floater{left(0, 5, 50, 0)}, strip{0, 99}, in, in, 0, false},
		{[]api.Floater{right(50, 5, 50, -3)}, strip{0, 99}, in, in, 0, false},
		// One that is not wide has its edges all the same.
		{[]api.Floater{left(50, 0, 0, 9)}, strip{0, 1}, in, sp(50, 60), 9, true},
		{[]api.Floater{left(55, 0, -5, 9)}, strip{0, 1}, in, sp(50, 60), 9, true},
		{[]api.Floater{right(50, 0, 0, 9)}, strip{0, 1}, in, sp(40, 50), 9, true},
		{[]api.Floater{right(50, 0, -7, 9)}, strip{0, 1}, in, sp(40, 50), 9, true},
		// Whatever the side is, but the left one, it is the right one.
		{[]api.Floater{{Side: 0, X: 50, W: 50, H: 9}}, strip{0, 1}, in, sp(40, 50), 9, true},
		{[]api.Floater{{Side: 3, X: 50, W: 50, H: 9}}, strip{0, 1}, in, sp(40, 50), 9, true},
		{[]api.Floater{{Side: -1, X: 50, W: 50, H: 9}}, strip{0, 1}, in, sp(40, 50), 9, true},
		// Floats leave nothing, each with a part in it, or one by itself.
		{[]api.Floater{left(0, 0, 55, 9), right(45, 2, 9, 3)}, strip{0, 3}, in, sp(55, 45), 5, true},
		{[]api.Floater{left(0, 0, 70, 9)}, strip{0, 3}, in, sp(70, 60), 9, true},
		{[]api.Floater{right(0, 0, 70, 9)}, strip{0, 3}, in, sp(40, 0), 9, true},
		{[]api.Floater{left(0, 0, 50, 9), right(50, 0, 9, 9)}, strip{0, 3}, in, sp(50, 50), 9, true},
		// A float narrows by itself, even if another one leaves less than it.
		{[]api.Floater{left(0, 0, 50, 20), left(0, 0, 45, 5)}, strip{0, 1}, in, sp(50, 60), 5, true},
		{[]api.Floater{left(0, 0, 45, 5), left(0, 0, 50, 20)}, strip{0, 1}, in, sp(50, 60), 5, true},
		// One that doesn't narrow has no bottom that counts.
		{[]api.Floater{left(0, 0, 40, 5), left(0, 0, 50, 20)}, strip{0, 1}, in, sp(50, 60), 20, true},
		{[]api.Floater{left(0, 5, 50, 5), right(50, 0, 50, 20)}, strip{0, 1}, in, sp(40, 50), 20, true},
		// A bottom may be 0, or less.
		{[]api.Floater{left(0, -9, 50, 9)}, strip{-1, 1}, in, sp(50, 60), 0, true},
		{[]api.Floater{left(0, -9, 50, 9), left(0, -9, 50, 15)}, strip{-1, 1}, in, sp(50, 60), 0, true},
		{[]api.Floater{right(50, -9, 50, 15), left(0, -9, 50, 9)}, strip{-1, 1}, in, sp(50, 50), 0, true},
		{[]api.Floater{left(0, -9, 50, 9), left(0, -9, 50, 5)}, strip{-9, 1}, in, sp(50, 60), -4, true},
		// A span that has nothing may become another one, which has nothing either.
		{[]api.Floater{left(0, 0, 50, 9)}, strip{0, 1}, sp(45, 45), sp(50, 45), 9, true},
		{[]api.Floater{left(0, 0, 50, 9)}, strip{0, 1}, sp(50, 50), sp(50, 50), 0, false},
		{[]api.Floater{right(50, 0, 9, 9)}, strip{0, 1}, sp(60, 55), sp(60, 50), 9, true},
		{[]api.Floater{right(50, 0, 9, 9)}, strip{0, 1}, sp(60, 50), sp(60, 50), 0, false},
		{nil, strip{0, 1}, sp(60, 50), sp(60, 50), 0, false},
	} {
		if band := bands.Of(c.l, c.s.y, c.s.high, c.in); band != c.band {
			t.Errorf("%d: Of(%v, %v, %v): %v, not %v", i, c.l, c.s, c.in, band, c.band)
		}
		if n, ok := bands.Next(c.l, c.s.y, c.s.high, c.in); n != c.next || ok != c.ok {
			t.Errorf("%d: Next(%v, %v, %v): %d, %v, not %d, %v", i, c.l, c.s, c.in, n, ok, c.next, c.ok)
		}
	}
}

// TestLowestTop: P10.3, of all short rows of floats, of all sides.
func TestLowestTop(t *testing.T) {
	of := floats([]int{-2, 0, 1, 2, 3, 4}, []int{0}, []int{-3, 0, 2}, []int{1}, []int{-1, 0, 2})
	rows(2, of, func(l []api.Floater) {
		for sides := -4; sides < 9; sides++ {
			n, ok := bands.Lowest(l, sides)
			if want, some := lowest(l, sides); n != want || ok != some {
				t.Fatalf("Lowest(%v, %d): %d, %v, not %d, %v", l, sides, n, ok, want, some)
			}
		}
		n, ok := bands.Top(l)
		if want, some := top(l); n != want || ok != some {
			t.Fatalf("Top(%v): %d, %v, not %d, %v", l, n, ok, want, some)
		}
	})
}

// TestLowestTopRows: P10.3, wherever in a row the lowest one stands.
func TestLowestTopRows(t *testing.T) {
	of := []api.Floater{left(0, 1, 5, 1), left(9, 0, 1, 6), right(0, 2, 5, 1), right(0, -8, 5, 2)}
	rows(4, of, func(l []api.Floater) {
		for sides := range 4 {
			n, ok := bands.Lowest(l, sides)
			want, some := lowest(l, sides)
			is(t, "Lowest", n, ok, want, some)
		}
		n, ok := bands.Top(l)
		want, some := top(l)
		is(t, "Top", n, ok, want, some)
	})
}

// TestNone: P10.1 to P10.3 and R3: no floats leave all, and have no heights; an empty row is as good as nil.
func TestNone(t *testing.T) {
	for _, l := range [][]api.Floater{nil, {}, two()[:0]} {
		for _, in := range spans(-5, 0, 7, far) {
			if band := bands.Of(l, 0, 10, in); band != in {
				t.Errorf("Of no floats: %v, not %v", band, in)
			}
			n, ok := bands.Next(l, 0, 10, in)
			is(t, "Next", n, ok, 0, false)
		}
		n, ok := bands.Lowest(l, 3)
		is(t, "Lowest", n, ok, 0, false)
		n, ok = bands.Top(l)
		is(t, "Top", n, ok, 0, false)
	}
}

// TestOnlyPlaces: P10.1 to P10.3: a float's node and anchor don't count.
func TestOnlyPlaces(t *testing.T) {
	for _, n := range odds() {
		l := two()
		for i := range l {
			l[i].Node, l[i].Anchor = n, n
		}
		if band := bands.Of(l, 0, 11, sp(0, 100)); band != sp(30, 80) {
			t.Errorf("%d: Of: %v", n, band)
		}
		at, ok := bands.Next(l, 0, 11, sp(0, 100))
		is(t, "Next", at, ok, 20, true)
		at, ok = bands.Lowest(l, 3)
		is(t, "Lowest", at, ok, 50, true)
		at, ok = bands.Top(l)
		is(t, "Top", at, ok, 10, true)
	}
}

// TestStays: P10.4 and R3: neither floats nor the room behind them change, and what stands in that room doesn't count.
func TestStays(t *testing.T) {
	whole := append(two(), left(0, 0, 90, 90), right(10, 70, 90, 90))
	l := whole[:2]
	was := slices.Clone(whole)
	for y := -5; y < 60; y++ {
		for high := -1; high < 60; high++ {
			bands.Of(l, y, high, sp(0, 100))
			bands.Next(l, y, high, sp(0, 100))
		}
		bands.Lowest(l, y)
		bands.Top(l)
		if !slices.Equal(whole, was) {
			t.Fatalf("at %d: %v", y, whole)
		}
	}
	if band := bands.Of(l, 0, 99, sp(0, 100)); band != sp(30, 80) {
		t.Errorf("Of: %v", band)
	}
	n, ok := bands.Lowest(l, 3)
	is(t, "Lowest", n, ok, 50, true)
	n, ok = bands.Top(l)
	is(t, "Top", n, ok, 10, true)
}

// TestSame: R5: what was asked ahead doesn't show.
func TestSame(t *testing.T) {
	for _, n := range odds() {
		l := []api.Floater{left(n, n, n, n), right(n, n, n, n)}
		bands.Of(l, n, n, sp(n, n))
		bands.Next(l, n, n, sp(n, n))
		bands.Lowest(l, n)
		bands.Top(l)
		if band := bands.Of(two(), 0, 11, sp(0, 100)); band != sp(30, 80) {
			t.Fatalf("behind %d: Of: %v", n, band)
		}
		at, ok := bands.Next(two(), 0, 11, sp(0, 100))
		is(t, "Next", at, ok, 20, true)
	}
}

// TestFree: P10.5, point by point: what is free is in no float that has something and meets the strip.
func TestFree(t *testing.T) {
	each(func(l []api.Floater, s strip, in api.Span) {
		band := bands.Of(l, s.y, s.high, in)
		for _, f := range met(l, s) {
			for x := band.A; x < band.B; x++ {
				for y := s.y; y < s.end(); y++ {
					if holds(f, x, y) {
						t.Fatalf("Of(%v, %v, %v): %v has %d %d", l, s, in, band, x, y)
					}
				}
			}
		}
	})
}

// TestOneMore: P10.5: a float more, wherever in the row, never makes a band wider.
func TestOneMore(t *testing.T) {
	each(func(l []api.Floater, s strip, in api.Span) {
		band := bands.Of(l, s.y, s.high, in)
		for i := range l {
			less := slices.Delete(slices.Clone(l), i, i+1)
			wide := bands.Of(less, s.y, s.high, in)
			if !span.Within(band, wide) || band.A < wide.A || band.B > wide.B {
				t.Fatalf("Of(%v, %v, %v): %v, but without float %d %v", l, s, in, band, i, wide)
			}
		}
		if !span.Within(band, in) {
			t.Fatalf("Of(%v, %v, %v): %v", l, s, in, band)
		}
	})
}

// TestDown: P10.6: the next height is below the strip's, and of those that narrow the band one less does so there.
func TestDown(t *testing.T) {
	each(func(l []api.Floater, s strip, in api.Span) {
		n, ok := bands.Next(l, s.y, s.high, in)
		if !ok {
			if band := bands.Of(l, s.y, s.high, in); band != in {
				t.Fatalf("Next(%v, %v, %v): none, but %v is free", l, s, in, band)
			}
			return
		}
		if n <= s.y {
			t.Fatalf("Next(%v, %v, %v): %d", l, s, in, n)
		}
		here := narrowing(l, s, in)
		there := narrowing(here, strip{n, s.high}, in)
		if len(there) >= len(here) {
			t.Fatalf("Next(%v, %v, %v): %d, where %v narrow", l, s, in, n, there)
		}
		for _, f := range here {
			if f.Y+f.H > n && !slices.Contains(there, f) {
				t.Fatalf("Next(%v, %v, %v): %d passes %v", l, s, in, n, f)
			}
		}
	})
}

// TestWayDown: P10.6: from next height to next height all is free in the end, after no more heights than there are floats.
func TestWayDown(t *testing.T) {
	each(func(l []api.Floater, s strip, in api.Span) {
		at, steps := s.y, 0
		for {
			n, ok := bands.Next(l, at, s.high, in)
			if !ok {
				break
			}
			steps++
			if n <= at || steps > len(l) {
				t.Fatalf("%v, %v, %v: %d behind %d, step %d", l, s, in, n, at, steps)
			}
			at = n
		}
		if band := bands.Of(l, at, s.high, in); band != in {
			t.Fatalf("%v, %v, %v: at %d %v is free", l, s, in, at, band)
		}
	})
}

// times is f with each place and size n times as great.
func times(f api.Floater, n int) api.Floater {
	f.X, f.Y, f.W, f.H = f.X*n, f.Y*n, f.W*n, f.H*n
	return f
}

// TestFar: P10.1 to P10.3 and R6: as far out as the chapter speaks of, all is as with small numbers.
func TestFar(t *testing.T) {
	const n = far / 8
	of := floats([]int{1, 2}, []int{-8, 0, 7, 8}, []int{-8, 7, 8}, []int{-8, 1, 8}, []int{1, 8})
	rows(2, of, func(l []api.Floater) {
		great := slices.Clone(l)
		for i := range great {
			great[i] = times(great[i], n)
		}
		for _, s := range strips([]int{-8, -1, 0, 7, 8}, []int{1, 8}) {
			for _, in := range []api.Span{sp(-8, 8), sp(0, 7), sp(8, -8)} {
				wide, want := sp(in.A*n, in.B*n), leaves(met(l, s), in)
				if band := bands.Of(great, s.y*n, s.high*n, wide); band != sp(want.A*n, want.B*n) {
					t.Fatalf("Of(%v, %v, %v): %v, not %v times %d", great, s, wide, band, want, n)
				}
				at, ok := bands.Next(great, s.y*n, s.high*n, wide)
				down, some := next(l, s, in)
				is(t, "Next", at, ok, down*n, some)
			}
		}
		at, ok := bands.Lowest(great, 3)
		down, some := lowest(l, 3)
		is(t, "Lowest", at, ok, down*n, some)
		at, ok = bands.Top(great)
		down, some = top(l)
		is(t, "Top", at, ok, down*n, some)
	})
}

// TestFarStrip: P10.1 and P10.2, of strips that begin, or end, at the last numbers that the chapter speaks of.
func TestFarStrip(t *testing.T) {
	in := sp(-far, far)
	l := []api.Floater{left(-far, far-1, 1, 1), left(-far, far, 2, far), right(far-3, -far, far, 1)}
	for _, c := range []struct {
		y, high int
		band    api.Span
		next    int
		ok      bool
	}{
		{far - 1, 1, sp(1-far, far), far, true},
		{far - 1, 2, sp(2-far, far), far, true},
		{far, -far, sp(2-far, far), 2 * far, true},
		{far, far, sp(2-far, far), 2 * far, true},
		{-far, 0, sp(-far, far-3), 1 - far, true},
		{-far, far, sp(-far, far-3), 1 - far, true},
		{1 - far, far, in, 0, false},
	} {
		if band := bands.Of(l, c.y, c.high, in); band != c.band {
			t.Errorf("Of at %d, %d high: %v, not %v", c.y, c.high, band, c.band)
		}
		n, ok := bands.Next(l, c.y, c.high, in)
		is(t, "Next", n, ok, c.next, c.ok)
	}
}

// TestMany: P10.1 to P10.3, of stairs of many floats, on both sides.
func TestMany(t *testing.T) {
	const many = 50_000
	var l []api.Floater
	for i := range many {
		k := i * 7919 % many // 7919 and many share no factor: each k once
		l = append(l, left(0, 0, many-k, k+1), right(2*many+k, 0, 9, k+1))
	}
	in := sp(0, 3*many)
	for _, y := range []int{0, 1, 2, 777, many - 2, many - 1} {
		// Floats of k from y on are as high as that.
		if band := bands.Of(l, y, 1, in); band != sp(many-y, 2*many+y) {
			t.Errorf("Of at %d: %v", y, band)
		}
		n, ok := bands.Next(l, y, 1, in)
		is(t, "Next", n, ok, y+1, true)
	}
	if band := bands.Of(l, many, many, in); band != in {
		t.Errorf("Of below all: %v", band)
	}
	n, ok := bands.Lowest(l, 2)
	is(t, "Lowest", n, ok, many, true)
	n, ok = bands.Top(l)
	is(t, "Top", n, ok, 0, true)
}

// TestBeyond: R1: of numbers that the chapter doesn't speak of calls come to an end.
func TestBeyond(t *testing.T) {
	for _, a := range odds() {
		for _, b := range odds() {
			for _, c := range odds() {
				l := []api.Floater{left(a, b, c, a), right(c, a, b, c), {Side: a, X: b, Y: c, W: b, H: c}}
				for _, in := range []api.Span{sp(a, b), sp(c, a)} {
					bands.Of(l, b, c, in)
					bands.Next(l, c, a, in)
				}
				bands.Lowest(l, a)
				bands.Top(l)
			}
		}
	}
}
