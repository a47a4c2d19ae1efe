package place_test

import (
	"slices"
	"testing"

	"gatefold/api"
	"gatefold/place"
)

// two are the floats of the chapter's examples.
func two() []api.Floater {
	return []api.Floater{left(0, 0, 30, 20), right(80, 10, 20, 40)}
}

// spot asks where q's float goes among l's.
func spot(l []api.Floater, q ask) (x, at int) { return place.Spot(l, q.f, q.y, q.in) }

// stands holds where q's float goes among l's against what is asked.
func stands(t *testing.T, l []api.Floater, q ask, x, at int) {
	t.Helper()
	if a, b := spot(l, q); a != x || b != at {
		t.Fatalf("Spot(%v, %v): %d, %d, not %d, %d", l, q, a, b, x, at)
	}
}

// TestExamples: P11.1, the chapter's examples.
func TestExamples(t *testing.T) {
	in := sp(0, 100)
	stands(t, two(), ask{left(0, 0, 40, 5), 0, in}, 30, 10)
	stands(t, two(), ask{left(0, 0, 55, 5), 0, in}, 0, 20)
	stands(t, two(), ask{right(0, 0, 90, 5), 0, in}, 10, 50)
	stands(t, two(), ask{right(0, 0, 300, 5), 60, in}, 0, 60)
}

// TestSpot: P11.1, of all rows of others, floats, heights and spans of the fields.
func TestSpot(t *testing.T) {
	each(func(l []api.Floater, q ask) {
		x, at := q.spot(l)
		stands(t, l, q, x, at)
	})
}

// TestHeightByHeight: P11.1: there is no height ahead of the float's at which it could stand, be it one of the next ones or not.
func TestHeightByHeight(t *testing.T) {
	each(func(l []api.Floater, q ask) {
		at := q.first(l)
		for !q.fits(l, at) {
			at++
		}
		if _, n := spot(l, q); n != at {
			t.Fatalf("Spot(%v, %v): at %d, not %d", l, q, n, at)
		}
	})
}

// TestEdges: P11.1, where a float just has room, or just doesn't.
func TestEdges(t *testing.T) {
	in := sp(40, 60)
	for i, c := range []struct {
		l     []api.Floater
		f     api.Floater
		y     int
		in    api.Span
		x, at int
	}{
		// As wide as the band, and wider by one.
		{[]api.Floater{left(40, 0, 5, 9)}, left(0, 0, 15, 1), 0, in, 45, 0},
		{[]api.Floater{left(40, 0, 5, 9)}, left(0, 0, 16, 1), 0, in, 40, 9},
		{[]api.Floater{right(55, 0, 5, 9)}, right(0, 0, 15, 1), 0, in, 40, 0},
		{[]api.Floater{right(55, 0, 5, 9)}, right(0, 0, 16, 1), 0, in, 44, 9},
		{[]api.Floater{left(40, 0, 5, 9), right(55, 0, 5, 7)}, left(0, 0, 10, 1), 0, in, 45, 0},
		{[]api.Floater{left(40, 0, 5, 9), right(55, 0, 5, 7)}, left(0, 0, 11, 1), 0, in, 45, 7},
		{[]api.Floater{left(40, 0, 5, 9), right(55, 0, 5, 7)}, right(0, 0, 16, 1), 0, in, 44, 9},
		// As wide as the span, and wider by one: below all that narrow it.
		{[]api.Floater{left(40, 0, 5, 9)}, right(0, 0, 20, 1), 0, in, 40, 9},
		{[]api.Floater{left(40, 0, 5, 9)}, right(0, 0, 21, 1), 0, in, 40, 9},
		{[]api.Floater{right(55, 0, 5, 9), left(40, 0, 5, 12)}, left(0, 0, far, 1), 0, in, 40, 12},
		// What doesn't narrow the span is in nobody's way.
		{[]api.Floater{left(0, 0, 40, 9), right(60, 0, 9, 9)}, left(0, 0, 99, 1), 0, in, 40, 0},
		{[]api.Floater{left(0, 0, 40, 9), right(60, 0, 9, 9)}, right(0, 0, 99, 1), 3, in, 40, 3},
		{[]api.Floater{left(0, 0, 41, 9), right(60, 0, 9, 99)}, right(0, 0, 20, 1), 0, in, 40, 9},
		// From its own height on, or from the greatest top of the others, wherever that stands in the row, and whether there is something of it.
		{[]api.Floater{left(40, 5, 1, 1)}, left(0, 0, 3, 1), 4, in, 41, 5},
		{[]api.Floater{left(40, 5, 1, 1)}, left(0, 0, 3, 1), 5, in, 41, 5},
		{[]api.Floater{left(40, 5, 1, 1)}, left(0, 0, 3, 1), 6, in, 40, 6},
		{[]api.Floater{left(40, 8, 1, 1), left(40, 5, 2, 9)}, left(0, 0, 3, 1), 0, in, 42, 8},
		{[]api.Floater{left(40, 8, 0, 0), left(40, 5, 2, 9)}, left(0, 0, 3, 1), 0, in, 42, 8},
		{[]api.Floater{right(90, 8, -1, -7), left(40, 5, 2, 9)}, right(0, 0, 19, 1), 0, in, 41, 14},
		{[]api.Floater{left(0, -8, 1, 1)}, left(0, 0, 3, 1), -9, in, 40, -8},
		{[]api.Floater{left(40, -9, 9, 9)}, left(0, 0, 19, 1), -12, in, 40, 0},
		// Each next height from the one ahead, whatever the order of the others.
		{[]api.Floater{left(40, 0, 9, 9), left(40, 0, 12, 7), right(45, 0, 15, 3)}, left(0, 0, 6, 1), 0, in, 52, 3},
		{[]api.Floater{left(40, 0, 9, 9), left(40, 0, 12, 7), right(45, 0, 15, 3)}, right(0, 0, 9, 1), 0, in, 51, 7},
		{[]api.Floater{left(40, 0, 9, 9), left(40, 0, 12, 7), right(45, 0, 15, 3)}, right(0, 0, 12, 1), 0, in, 48, 9},
		{[]api.Floater{left(40, 0, 9, 9), left(40, 0, 12, 7), right(45, 0, 15, 3)}, right(0, 0, 12, 1), 8, in, 48, 9},
		// However high it is, below all tops it counts only where it begins.
		{[]api.Floater{left(40, 0, 9, 9)}, left(0, 0, 19, 0), 8, in, 40, 9},
		{[]api.Floater{left(40, 0, 9, 9)}, left(0, 0, 19, -far), 8, in, 40, 9},
		{[]api.Floater{left(40, 0, 9, 9)}, left(0, 0, 19, far), 9, in, 40, 9},
		// One that is not wide has room anywhere, even where others leave nothing.
		{[]api.Floater{left(40, 0, 15, 9), right(45, 0, 15, 9)}, left(0, 0, 0, 1), 0, in, 55, 0},
		{[]api.Floater{left(40, 0, 15, 9), right(45, 0, 15, 9)}, right(0, 0, 0, 1), 0, in, 55, 0},
		{[]api.Floater{left(40, 0, 15, 9), right(45, 0, 15, 9)}, right(0, 0, -30, 1), 0, in, 75, 0},
		{[]api.Floater{left(40, 0, 15, 9), right(45, 0, 15, 9)}, right(0, 0, 1, 1), 0, in, 59, 9},
		// A side that is not the left one is the right one, of others and of itself.
		{[]api.Floater{{Side: 0, X: 55, W: 9, H: 9}}, api.Floater{Side: 3, W: 4}, 0, in, 51, 0},
		{[]api.Floater{{Side: 3, X: 55, W: 9, H: 9}}, api.Floater{Side: 0, W: 4}, 0, in, 51, 0},
		{[]api.Floater{{Side: -1, X: 55, W: 9, H: 9}}, api.Floater{Side: -1, W: 4}, 0, in, 51, 0},
		// A span that has nothing has room for nothing that is wide, but where nothing makes it another one.
		{[]api.Floater{left(0, 0, 50, 9)}, left(0, 0, 1, 1), 0, sp(45, 45), 45, 9},
		{[]api.Floater{left(0, 0, 50, 9)}, left(0, 0, 0, 1), 0, sp(45, 45), 50, 0},
		{[]api.Floater{left(0, 0, 50, 9)}, right(0, 0, 1, 1), 0, sp(50, 50), 50, 0},
		{[]api.Floater{right(50, 0, 9, 9)}, right(0, 0, 1, 1), 0, sp(60, 55), 60, 9},
		{[]api.Floater{right(50, 0, 9, 9)}, right(0, 0, -20, 1), 0, sp(60, 55), 70, 0},
	} {
		if x, at := place.Spot(c.l, c.f, c.y, c.in); x != c.x || at != c.at {
			t.Errorf("%d: Spot(%v, %v, %d, %v): %d, %d, not %d, %d", i, c.l, c.f, c.y, c.in, x, at, c.x, c.at)
		}
	}
}

// TestPut: P11.2, of all of the fields: the others, and behind them the float, with nothing new but where it stands.
func TestPut(t *testing.T) {
	each(func(l []api.Floater, q ask) {
		want := append(slices.Clone(l), q.f)
		last := &want[len(l)]
		last.X, last.Y = q.spot(l)
		if all := place.Put(l, q.f, q.y, q.in); !slices.Equal(all, want) {
			t.Fatalf("Put(%v, %v): %v, not %v", l, q, all, want)
		}
	})
}

// TestOnlyPlaces: P11.1 and P11.2: nodes and anchors don't count, nor where the float was told to stand; all but that is kept.
func TestOnlyPlaces(t *testing.T) {
	for _, n := range odds() {
		l := two()
		for i := range l {
			l[i].Node, l[i].Anchor = n, n
		}
		f := api.Floater{Node: n, Side: 2, Anchor: n, X: n, Y: n, W: 50, H: 5}
		stands(t, l, ask{f, 0, sp(0, 100)}, 30, 10)
		all := place.Put(l, f, 0, sp(0, 100))
		f.X, f.Y = 30, 10
		if !slices.Equal(all, append(l, f)) {
			t.Errorf("%d: Put: %v", n, all)
		}
	}
}

// TestNone: P11.1, P11.2 and R3: among no others it stands at its height, in the whole span; an empty row is as good as nil.
func TestNone(t *testing.T) {
	for _, l := range [][]api.Floater{nil, {}, two()[:0]} {
		for _, q := range asks(floats([]int{0, 1, 2}, []int{9}, []int{9}, []int{-far, 0, 3, far}, []int{0, far}), []int{-far, -7, 0, far}, []api.Span{sp(-5, 20), sp(20, -5), sp(7, 7), sp(-far, far)}) {
			stands(t, l, q, q.across(q.in), q.y)
			f := q.f
			f.X, f.Y = q.across(q.in), q.y
			if all := place.Put(l, q.f, q.y, q.in); !slices.Equal(all, []api.Floater{f}) {
				t.Errorf("Put(%v): %v", q, all)
			}
		}
	}
}

// TestStays: P11.3 and R3: neither the others nor the room behind them change, and what stands in that room doesn't count.
func TestStays(t *testing.T) {
	whole := append(two(), left(0, 0, 90, 90), right(10, 70, 90, 90))
	l := whole[:2]
	was := slices.Clone(whole)
	for y := -5; y < 60; y++ {
		for _, f := range floats([]int{1, 2}, []int{0}, []int{0}, []int{0, 20, 50, 90, 300}, []int{0, 30}) {
			q := ask{f, y, sp(0, 100)}
			x, at := q.spot(was[:2])
			stands(t, l, q, x, at)
			place.Put(l, f, y, sp(0, 100))
			if !slices.Equal(whole, was) {
				t.Fatalf("at %d: %v", y, whole)
			}
		}
	}
}

// TestNew: P11.3 and R3: what is answered is new memory, each time.
func TestNew(t *testing.T) {
	for many := range 3 {
		l := two()[:many]
		f := left(0, 0, 40, 5)
		one, other := place.Put(l, f, 0, sp(0, 100)), place.Put(l, f, 0, sp(0, 100))
		clear(one[:cap(one)])
		if !slices.Equal(l, two()[:many]) {
			t.Errorf("%d others: now %v", many, l)
		}
		want := place.Put(l, f, 0, sp(0, 100))
		clear(l)
		if !slices.Equal(other, want) {
			t.Errorf("%d others: Put: now %v, not %v", many, other, want)
		}
	}
}

// TestSame: R5: what was asked ahead doesn't show.
func TestSame(t *testing.T) {
	q := ask{left(0, 0, 40, 5), 0, sp(0, 100)}
	for _, n := range odds() {
		odd := ask{right(n, n, n, n), n, sp(n, n)}
		spot(two(), odd)
		place.Put(nil, odd.f, n, odd.in)
		stands(t, two(), q, 30, 10)
	}
}

// puts hands out all short rows of floats that were put one behind the other, with what was asked of each.
func puts(yield func(l []api.Floater, qs []ask)) {
	fs := floats([]int{1, 2}, []int{7}, []int{7}, []int{1, 2, 5}, []int{1, 2, 4})
	for _, in := range []api.Span{sp(0, 5), sp(-3, 4)} {
		rows(3, asks(fs, []int{0, 2}, []api.Span{in}), func(qs []ask) {
			var l []api.Floater
			for _, q := range qs {
				l = place.Put(l, q.f, q.y, q.in)
			}
			yield(l, qs)
		})
	}
}

// TestApart: P11.4, point by point: no two floats have one in common, and none is beside the span.
func TestApart(t *testing.T) {
	puts(func(l []api.Floater, qs []ask) {
		all, many := map[[2]int]bool{}, 0
		for i, f := range l {
			if f.X < qs[i].in.A || f.X+f.W > qs[i].in.B {
				t.Fatalf("%v: %v is not within %v", qs, f, qs[i].in)
			}
			for p := range covered(f) {
				all[p] = true
			}
			many += f.W * f.H
		}
		if len(all) != many {
			t.Fatalf("%v: %v have %d points in common", qs, l, many-len(all))
		}
	})
}

// TestOrder: P11.5: no float's top is above that of one ahead, nor above its own first height.
func TestOrder(t *testing.T) {
	puts(func(l []api.Floater, qs []ask) {
		for i, f := range l {
			if f.Y < qs[i].y || i > 0 && f.Y < l[i-1].Y {
				t.Fatalf("%v: %v", qs, l)
			}
		}
	})
	each(func(l []api.Floater, q ask) {
		if _, at := spot(l, q); at < q.first(l) {
			t.Fatalf("Spot(%v, %v): at %d", l, q, at)
		}
	})
}

// TestAsHighAsMayBe: P11.6: where it could stand in the band of its first height, it does.
func TestAsHighAsMayBe(t *testing.T) {
	each(func(l []api.Floater, q ask) {
		y := q.first(l)
		band := q.band(l, y)
		if q.f.W > long(band) {
			return
		}
		stands(t, l, q, q.across(band), y)
	})
}

// times is f with each place and size n times as great.
func times(f api.Floater, n int) api.Floater {
	f.X, f.Y, f.W, f.H = f.X*n, f.Y*n, f.W*n, f.H*n
	return f
}

// TestFar: P11.1, P11.2 and R6: as far out as the chapter speaks of, all is as with small numbers.
func TestFar(t *testing.T) {
	const n = far / 8
	others := floats([]int{1, 2}, []int{-8, 7}, []int{-8, 8}, []int{1, 8}, []int{1, 8})
	fs := floats([]int{1, 2}, []int{0}, []int{0}, []int{-8, 1, 7, 8}, []int{1, 8})
	all := asks(fs, []int{-8, 0, 8}, []api.Span{sp(-8, 8), sp(0, 7), sp(8, -8)})
	rows(2, others, func(l []api.Floater) {
		great := slices.Clone(l)
		for i := range great {
			great[i] = times(great[i], n)
		}
		for _, q := range all {
			x, at := q.spot(l)
			wide := ask{times(q.f, n), q.y * n, sp(q.in.A*n, q.in.B*n)}
			stands(t, great, wide, x*n, at*n)
		}
	})
}

// TestFarEdges: P11.1 and R6, one unit off the last numbers that the chapter speaks of.
func TestFarEdges(t *testing.T) {
	in := sp(-far, far)
	l := []api.Floater{left(-far, far-1, 1, far), right(far-1, far, far, far)}
	stands(t, l, ask{left(0, 0, far, far), -far, in}, 1-far, far)
	stands(t, l, ask{right(0, 0, far, far), far, in}, -1, far)
	// The band is 2^50 - 1 wide, then 2^50.
	in = sp(0, far)
	l[0].X = 0
	stands(t, l, ask{left(0, 0, far-2, 1), 0, in}, 1, far)
	stands(t, l, ask{left(0, 0, far-1, 1), 0, in}, 0, 2*far-1)
	stands(t, l, ask{right(0, 0, far-1, 1), 0, in}, 0, 2*far-1)
	stands(t, l, ask{right(0, 0, far, 1), 0, in}, 0, 2*far)
}

// TestMany: P11.1 and P11.2, among stairs of many floats on both sides, down to the last one; and of many put one behind the other.
func TestMany(t *testing.T) {
	const many = 1000
	var l []api.Floater
	for i := range many {
		k := i * 7919 % many // 7919 and many share no factor: each k once
		l = append(l, left(0, 0, many-k, k+1), right(2*many+k, 0, 9, k+1))
	}
	in := sp(0, 3*many)
	for _, y := range []int{0, 1, 777, many - 1, many} {
		// From a height on the band is many wide and twice the height: 2 more a step.
		for _, wide := range []int{1, many, many + 1, 2*many - 1, 3*many - 2} {
			at := max(y, (wide-many+1)/2)
			stands(t, l, ask{left(0, 0, wide, 3), y, in}, many-at, at)
		}
		stands(t, l, ask{right(0, 0, 3*many, 3), y, in}, 0, many)
	}
	var row []api.Floater
	for i := range many {
		row = place.Put(row, left(0, 0, 1, many-i), 0, sp(0, many))
		if row[i].X != i || row[i].Y != 0 {
			t.Fatalf("the float %d stands at %d, %d", i, row[i].X, row[i].Y)
		}
	}
	stands(t, row, ask{left(0, 0, many, 1), 0, sp(0, many)}, 0, many)
}

// TestBeyond: R1: of numbers that the chapter doesn't speak of calls come to an end.
func TestBeyond(t *testing.T) {
	for _, a := range odds() {
		for _, b := range odds() {
			for _, c := range odds() {
				l := []api.Floater{left(a, b, c, a), right(c, a, b, c), {Side: a, X: b, Y: c, W: b, H: c}}
				for _, in := range []api.Span{sp(a, b), sp(c, a)} {
					for _, f := range l {
						place.Spot(l, f, a, in)
						place.Put(l, f, c, in)
					}
				}
			}
		}
	}
}
