package rect_test

import (
	"math"
	"math/bits"
	"slices"
	"testing"

	"gatefold/api"
	"gatefold/rect"
)

// far is the greatest number of which the chapter speaks.
const far = 1 << 60

// The tests that go point by point ask those of a field, from low on, side wide and high: a bit each of 64.
const (
	low  = -2
	side = 8
)

func of(x, y, w, h int) api.Rect { return api.Rect{X: x, Y: y, W: w, H: h} }

func sp(a, b int) api.Span { return api.Span{A: a, B: b} }

// holds is the chapter's word: x is in the span from X up to X + W, and y in that from Y up to Y + H.
func holds(r api.Rect, x, y int) bool {
	return r.X <= x && x < r.X+r.W && r.Y <= y && y < r.Y+r.H
}

// points are the points of the field that r has.
func points(r api.Rect) uint64 {
	var p uint64
	for i := range side * side {
		if holds(r, low+i%side, low+i/side) {
			p |= 1 << i
		}
	}
	return p
}

// around is the least rectangle that has all of p, the zero one of none.
func around(p uint64) api.Rect {
	if p == 0 {
		return of(0, 0, 0, 0)
	}
	var row uint64 // which columns have a point
	for i := range side {
		row |= p >> (i * side) & (1<<side - 1)
	}
	left, top := bits.TrailingZeros64(row), bits.TrailingZeros64(p)/side
	right, bottom := bits.Len64(row), (bits.Len64(p)-1)/side+1
	return of(low+left, low+top, right-left, bottom-top)
}

// all are the rectangles of the field whose corner lies from -1 to a, and whose width and height from -1 to b, the empty and the turned ones among them.
func all(a, b int) []api.Rect {
	var l []api.Rect
	for x := -1; x <= a; x++ {
		for y := -1; y <= a; y++ {
			for w := -1; w <= b; w++ {
				for h := -1; h <= b; h++ {
					l = append(l, of(x, y, w, h))
				}
			}
		}
	}
	return l
}

// TestField: the tests' own words agree with each other.
func TestField(t *testing.T) {
	for _, x := range []struct {
		r    api.Rect
		many int
	}{
		{of(-2, -2, 8, 8), 64}, {of(0, 0, 1, 1), 1}, {of(2, -1, 3, 2), 6}, {of(2, 2, 0, 2), 0}, {of(2, 2, 2, -1), 0},
	} {
		p := points(x.r)
		if bits.OnesCount64(p) != x.many || x.many > 0 && around(p) != x.r {
			t.Errorf("%v: %b, %v", x.r, p, around(p))
		}
	}
}

// TestOf: P3.1.
func TestOf(t *testing.T) {
	for _, x := range []struct {
		across, down api.Span
		want         api.Rect
	}{
		{sp(2, 5), sp(0, 4), of(2, 0, 3, 4)},
		{sp(0, 4), sp(2, 5), of(0, 2, 4, 3)},
		{sp(0, 1), sp(0, 1), of(0, 0, 1, 1)},
		{sp(-5, -2), sp(-9, 3), of(-5, -9, 3, 12)},
		{sp(2, 2), sp(0, 4), of(0, 0, 0, 0)},
		{sp(2, 5), sp(4, 4), of(0, 0, 0, 0)},
		{sp(5, 2), sp(0, 4), of(0, 0, 0, 0)},
		{sp(2, 5), sp(4, 0), of(0, 0, 0, 0)},
		{sp(5, 2), sp(4, 0), of(0, 0, 0, 0)},
		{sp(7, 7), sp(7, 7), of(0, 0, 0, 0)},
		{sp(-far, far), sp(-far, far), of(-far, -far, 2*far, 2*far)},
		{sp(far-1, far), sp(-far, 1-far), of(far-1, -far, 1, 1)},
		{sp(far, far), sp(-far, far), of(0, 0, 0, 0)},
		{sp(far, -far), sp(-far, far), of(0, 0, 0, 0)},
	} {
		if r := rect.Of(x.across, x.down); r != x.want {
			t.Errorf("Of(%v, %v): %v, not %v", x.across, x.down, r, x.want)
		}
	}
}

// TestSpans: P3.1, of rectangles with something: Across and Down are the spans of which Of makes them.
func TestSpans(t *testing.T) {
	for _, x := range []struct {
		r            api.Rect
		across, down api.Span
	}{
		{of(2, 0, 3, 4), sp(2, 5), sp(0, 4)},
		{of(2, 1, 3, 4), sp(2, 5), sp(1, 5)},
		{of(-7, -3, 2, 9), sp(-7, -5), sp(-3, 6)},
		{of(far, -far, far, far), sp(far, 2*far), sp(-far, 0)},
		{of(-far, far, 1, 1), sp(-far, 1-far), sp(far, far+1)},
	} {
		if a, d := rect.Across(x.r), rect.Down(x.r); a != x.across || d != x.down {
			t.Errorf("%v: across %v, not %v; down %v, not %v", x.r, a, x.across, d, x.down)
		}
		if r := rect.Of(x.across, x.down); r != x.r {
			t.Errorf("Of(%v, %v): %v", x.across, x.down, r)
		}
	}
}

// TestSpansOfNothing: P3.1: each span is from the corner up to the corner and the length, whether the other one has something or not.
func TestSpansOfNothing(t *testing.T) {
	for _, x := range []struct {
		r            api.Rect
		across, down api.Span
	}{
		{of(2, 1, 3, 0), sp(2, 5), sp(1, 1)},
		{of(2, 1, 0, 4), sp(2, 2), sp(1, 5)},
		{of(2, 1, 3, -4), sp(2, 5), sp(1, -3)},
		{of(2, 1, -3, 4), sp(2, -1), sp(1, 5)},
		{of(0, 0, 0, 0), sp(0, 0), sp(0, 0)},
		{of(-far, far, -far, -far), sp(-far, -2*far), sp(far, 0)},
	} {
		if a, d := rect.Across(x.r), rect.Down(x.r); a != x.across || d != x.down {
			t.Errorf("%v: across %v, not %v; down %v, not %v", x.r, a, x.across, d, x.down)
		}
	}
}

// TestHas: P3.1.
func TestHas(t *testing.T) {
	for _, x := range []struct {
		r    api.Rect
		x, y int
		want bool
	}{
		{of(2, 0, 3, 4), 2, 0, true}, {of(2, 0, 3, 4), 4, 3, true}, {of(2, 0, 3, 4), 4, 0, true}, {of(2, 0, 3, 4), 2, 3, true},
		{of(2, 0, 3, 4), 1, 0, false}, {of(2, 0, 3, 4), 5, 3, false}, {of(2, 0, 3, 4), 2, -1, false}, {of(2, 0, 3, 4), 4, 4, false},
		{of(2, 0, 3, 0), 2, 0, false}, {of(2, 0, 0, 4), 2, 0, false}, {of(2, 0, 3, -4), 3, -2, false}, {of(2, 0, -3, 4), 0, 2, false},
		{of(0, 0, 0, 0), 0, 0, false}, {of(0, 0, -1, -1), 0, 0, false}, {of(0, 0, -1, -1), -1, -1, false},
		{of(far, -far, far, far), far, -far, true}, {of(far, -far, far, far), 2*far - 1, -1, true},
		{of(far, -far, far, far), 2 * far, -1, false}, {of(far, -far, far, far), far, 0, false},
		{of(0, 0, 9, 9), math.MaxInt, 1, false}, {of(0, 0, 9, 9), 1, math.MinInt, false}, {of(-9, -9, 9, 9), math.MinInt, -1, false},
	} {
		if has := rect.Has(x.r, x.x, x.y); has != x.want {
			t.Errorf("Has(%v, %d, %d): %v", x.r, x.x, x.y, has)
		}
	}
}

// TestPoints: P3.1, point by point.
func TestPoints(t *testing.T) {
	for _, r := range all(2, 3) {
		for i := range side * side {
			x, y := low+i%side, low+i/side
			if has := rect.Has(r, x, y); has != holds(r, x, y) {
				t.Errorf("Has(%v, %d, %d): %v", r, x, y, has)
			}
		}
		want := around(points(r))
		if again := rect.Of(rect.Across(r), rect.Down(r)); again != want {
			t.Errorf("%v, of its spans: %v, not %v", r, again, want)
		}
	}
}

// TestMeet: P3.2; the rectangle of nothing is the zero one, wherever it would stand.
func TestMeet(t *testing.T) {
	none := of(0, 0, 0, 0)
	for _, x := range []struct{ a, b, want api.Rect }{
		{of(0, 0, 4, 4), of(2, 3, 9, 9), of(2, 3, 2, 1)},
		{of(0, 0, 2, 2), of(2, 0, 2, 2), none},
		{of(0, 0, 2, 2), of(0, 2, 2, 2), none},
		{of(0, 0, 2, 2), of(2, 2, 2, 2), none},
		{of(0, 0, 2, 2), of(1, 7, 2, 2), none},
		{of(0, 0, 2, 2), of(7, 1, 2, 2), none},
		{of(2, 3, 9, 9), of(2, 3, 9, 9), of(2, 3, 9, 9)},
		{of(3, 4, 1, 1), of(2, 3, 9, 9), of(3, 4, 1, 1)},
		{of(0, 5, 20, 2), of(6, 0, 3, 20), of(6, 5, 3, 2)},
		{of(-9, -8, 5, 5), of(-6, -6, 9, 9), of(-6, -6, 2, 3)},
		{of(3, 4, 0, 1), of(2, 3, 9, 9), none},
		{of(3, 4, 1, 0), of(2, 3, 9, 9), none},
		{of(3, 4, 5, -1), of(2, 3, 9, 9), none},
		{of(3, 4, 0, 0), of(3, 4, 0, 0), none},
		{of(3, 4, -2, 5), of(3, 4, -2, 5), none},
		{of(-far, -far, far, far), of(-far, -far, far, far), of(-far, -far, far, far)},
		{of(far, far, far, far), of(far, far, far, far), of(far, far, far, far)},
		{of(-far, -far, far, far), of(-1, -1, far, far), of(-1, -1, 1, 1)},
		{of(-far, -far, far, far), of(0, 0, far, far), none},
		{of(far, 0, 1, far), of(-far, far-1, far, 1), none},
	} {
		if m := rect.Meet(x.a, x.b); m != x.want {
			t.Errorf("Meet(%v, %v): %v, not %v", x.a, x.b, m, x.want)
		}
		if m := rect.Meet(x.b, x.a); m != x.want {
			t.Errorf("Meet(%v, %v): %v, not %v", x.b, x.a, m, x.want)
		}
	}
}

// TestWithin: P3.2; what has nothing is within all, and nothing else is within it.
func TestWithin(t *testing.T) {
	for _, x := range []struct {
		a, b api.Rect
		want bool
	}{
		{of(3, 4, 1, 1), of(2, 3, 9, 9), true},
		{of(2, 3, 9, 9), of(2, 3, 9, 9), true},
		{of(1, 3, 9, 9), of(2, 3, 9, 9), false},
		{of(2, 2, 9, 9), of(2, 3, 9, 9), false},
		{of(2, 3, 10, 9), of(2, 3, 9, 9), false},
		{of(2, 3, 9, 10), of(2, 3, 9, 9), false},
		{of(20, 20, 1, 1), of(2, 3, 9, 9), false},
		{of(4, 0, 1, 20), of(0, 4, 20, 1), false},
		{of(20, 20, 0, 9), of(2, 3, 9, 9), true},
		{of(20, 20, 9, 0), of(2, 3, 9, 9), true},
		{of(20, 20, -4, 9), of(2, 3, 9, 9), true},
		{of(20, 20, 9, -4), of(2, 3, 9, 9), true},
		{of(3, 4, 5, -1), of(2, 3, 0, 9), true},
		{of(0, 0, 0, 0), of(0, 0, 0, 0), true},
		{of(2, 3, 9, 9), of(5, 5, 0, 9), false},
		{of(0, 0, 1, 1), of(0, 0, 0, 0), false},
		{of(0, 0, 1, 1), of(1, 1, -1, -1), false},
		{of(-far, -far, far, far), of(-far, -far, far, far), true},
		{of(-1, -1, 1, 1), of(-far, -far, far, far), true},
		{of(-1, -1, 1, 2), of(-far, -far, far, far), false},
		{of(far, far, 1, 1), of(far, far, far, far), true},
		{of(-far, -far, far, far), of(1-far, -far, far, far), false},
	} {
		if in := rect.Within(x.a, x.b); in != x.want {
			t.Errorf("Within(%v, %v): %v", x.a, x.b, in)
		}
	}
}

// TestHull: P3.3.
func TestHull(t *testing.T) {
	none := of(0, 0, 0, 0)
	for _, x := range []struct {
		l    []api.Rect
		want api.Rect
	}{
		{nil, none},
		{[]api.Rect{}, none},
		{[]api.Rect{of(0, 0, 1, 1), of(5, 5, 0, 9), of(3, 2, 1, 1)}, of(0, 0, 4, 3)},
		{[]api.Rect{of(3, 2, 1, 1), of(0, 0, 1, 1)}, of(0, 0, 4, 3)},
		{[]api.Rect{of(0, 2, 1, 1), of(3, 0, 1, 1)}, of(0, 0, 4, 3)},
		{[]api.Rect{of(4, 7, 2, 3)}, of(4, 7, 2, 3)},
		{[]api.Rect{of(-4, -7, 2, 3)}, of(-4, -7, 2, 3)},
		{[]api.Rect{of(5, 5, 0, 9)}, none},
		{[]api.Rect{of(5, 5, 9, 0)}, none},
		{[]api.Rect{of(5, 5, -9, 9), of(-5, -5, 9, -9), of(7, 7, 0, 0)}, none},
		{[]api.Rect{of(90, 0, 9, 0), of(4, 7, 2, 3), of(0, 90, 0, 9)}, of(4, 7, 2, 3)},
		{[]api.Rect{none, of(4, 7, 2, 3), none}, of(4, 7, 2, 3)},
		{[]api.Rect{none, of(-9, -9, 2, 3), none}, of(-9, -9, 2, 3)},
		{[]api.Rect{of(0, 0, 9, 9), of(2, 2, 1, 1)}, of(0, 0, 9, 9)},
		{[]api.Rect{of(2, 2, 1, 1), of(0, 0, 9, 9)}, of(0, 0, 9, 9)},
		{[]api.Rect{of(-far, -far, 1, 1), of(far, far, far, far)}, of(-far, -far, 3*far, 3*far)},
		{[]api.Rect{of(far, far, far, far), of(far, far, far, far)}, of(far, far, far, far)},
		{[]api.Rect{of(-far, far, 1, far), of(far, -far, far, 1), of(0, 0, -far, far)}, of(-far, -far, 3*far, 3*far)},
	} {
		if h := rect.Hull(x.l...); h != x.want {
			t.Errorf("Hull(%v): %v, not %v", x.l, h, x.want)
		}
	}
}

// TestMoved: P3.3.
func TestMoved(t *testing.T) {
	for _, x := range []struct {
		r    api.Rect
		x, y int
		want api.Rect
	}{
		{of(2, 0, 3, 4), 0, 0, of(2, 0, 3, 4)},
		{of(2, 0, 3, 4), -5, 7, of(-3, 7, 3, 4)},
		{of(2, 0, 3, 4), 6, -1, of(8, -1, 3, 4)},
		{of(2, 0, 3, 4), 6, 0, of(8, 0, 3, 4)},
		{of(2, 0, 3, 4), 0, 6, of(2, 6, 3, 4)},
		{of(2, 0, 0, 4), 1, 1, of(0, 0, 0, 0)},
		{of(2, 0, 3, 0), 1, 1, of(0, 0, 0, 0)},
		{of(2, 0, -3, 4), 1, 1, of(0, 0, 0, 0)},
		{of(2, 0, 3, -4), 0, 0, of(0, 0, 0, 0)},
		{of(0, 0, 0, 0), 5, 5, of(0, 0, 0, 0)},
		{of(far, -far, far, far), far, -far, of(2*far, -2*far, far, far)},
		{of(far, -far, far, far), -far, far, of(0, 0, far, far)},
		{of(far, -far, 0, far), far, -far, of(0, 0, 0, 0)},
	} {
		if m := rect.Moved(x.r, x.x, x.y); m != x.want {
			t.Errorf("Moved(%v, %d, %d): %v, not %v", x.r, x.x, x.y, m, x.want)
		}
	}
}

// TestMovedPoints: P3.3, point by point: what is moved has just the points that were, moved.
func TestMovedPoints(t *testing.T) {
	for _, r := range all(2, 3) {
		for x := -2; x <= 2; x++ {
			for y := -2; y <= 2; y++ {
				m := rect.Moved(r, x, y)
				for i := range side * side {
					px, py := low+i%side, low+i/side
					if holds(m, px+x, py+y) != holds(r, px, py) {
						t.Errorf("Moved(%v, %d, %d): %v", r, x, y, m)
					}
				}
				if points(r) == 0 && m != of(0, 0, 0, 0) {
					t.Errorf("Moved(%v, %d, %d): %v, not the zero one", r, x, y, m)
				}
			}
		}
	}
}

// TestPairs: P3.2, P3.3 and P3.6, point by point, of all pairs.
func TestPairs(t *testing.T) {
	l := all(2, 3)
	has := make([]uint64, len(l))
	for i, r := range l {
		has[i] = points(r)
	}
	for i, a := range l {
		for j, b := range l {
			if m := rect.Meet(a, b); points(m) != has[i]&has[j] || m != around(has[i]&has[j]) {
				t.Errorf("Meet(%v, %v): %v, not %v", a, b, m, around(has[i]&has[j]))
			}
			if in := rect.Within(a, b); in != (has[i]&^has[j] == 0) {
				t.Errorf("Within(%v, %v): %v", a, b, in)
			}
			h := rect.Hull(a, b)
			if (has[i]|has[j])&^points(h) != 0 || h != around(has[i]|has[j]) {
				t.Errorf("Hull(%v, %v): %v, not %v", a, b, h, around(has[i]|has[j]))
			}
		}
	}
}

// TestThrees: P3.3 and P3.6 of three, in all orders.
func TestThrees(t *testing.T) {
	var l []api.Rect
	for _, r := range all(1, 2) {
		if r.W != 0 && (r.X+r.Y)%2 == 0 {
			l = append(l, r)
		}
	}
	for _, a := range l {
		for _, b := range l {
			for _, c := range l {
				if h, want := rect.Hull(a, b, c), around(points(a)|points(b)|points(c)); h != want {
					t.Fatalf("Hull(%v, %v, %v): %v, not %v", a, b, c, h, want)
				}
			}
		}
	}
}

// TestLong: P3.3 and P3.6 of a long row.
func TestLong(t *testing.T) {
	const n = 5000
	var l []api.Rect
	for i := range n {
		k := i * 1237 % n // 1237 and n share no factor: each k once
		l = append(l, of(k, -k, 2, 3), of(9*n, k, 0, 5), of(k, 9*n, 5, -1))
	}
	if h := rect.Hull(l...); h != of(0, 1-n, n+1, n+2) {
		t.Errorf("Hull of %d: %v", len(l), h)
	}
}

// TestSlices: P3.4.
func TestSlices(t *testing.T) {
	for _, x := range []struct {
		r    api.Rect
		high int
		want []api.Rect
	}{
		{of(1, 1, 2, 5), 2, []api.Rect{of(1, 1, 2, 2), of(1, 3, 2, 2), of(1, 5, 2, 1)}},
		{of(1, 1, 2, 4), 2, []api.Rect{of(1, 1, 2, 2), of(1, 3, 2, 2)}},
		{of(1, 1, 2, 3), 1, []api.Rect{of(1, 1, 2, 1), of(1, 2, 2, 1), of(1, 3, 2, 1)}},
		{of(-4, -3, 7, 5), 3, []api.Rect{of(-4, -3, 7, 3), of(-4, 0, 7, 2)}},
		{of(1, 1, 2, 5), 4, []api.Rect{of(1, 1, 2, 4), of(1, 5, 2, 1)}},
		{of(1, 1, 2, 5), 5, []api.Rect{of(1, 1, 2, 5)}},
		{of(1, 1, 2, 5), 6, []api.Rect{of(1, 1, 2, 5)}},
		{of(1, 1, 2, 5), math.MaxInt, []api.Rect{of(1, 1, 2, 5)}},
		{of(1, 1, 2, 1), 1, []api.Rect{of(1, 1, 2, 1)}},
		{of(1, 1, 2, 5), 0, nil},
		{of(1, 1, 2, 5), -1, nil},
		{of(1, 1, 2, 5), -5, nil},
		{of(1, 1, 2, 5), math.MinInt, nil},
		{of(1, 1, 2, 0), 2, nil},
		{of(1, 1, 0, 5), 2, nil},
		{of(1, 1, 2, -5), 2, nil},
		{of(1, 1, -2, 5), 2, nil},
		{of(1, 1, 2, -5), -5, nil},
		{of(0, 0, 0, 0), 1, nil},
		{of(-far, -far, far, far), far, []api.Rect{of(-far, -far, far, far)}},
		{of(far, far, far, far), far - 1, []api.Rect{of(far, far, far, far-1), of(far, 2*far-1, far, 1)}},
		{of(far, far, far, far), far / 2, []api.Rect{of(far, far, far, far/2), of(far, far+far/2, far, far/2)}},
	} {
		if l := rect.Slices(x.r, x.high); !slices.Equal(l, x.want) {
			t.Errorf("Slices(%v, %d): %v, not %v", x.r, x.high, l, x.want)
		}
	}
}

// TestManySlices: P3.4 and P3.7, at MaxSlices.
func TestManySlices(t *testing.T) {
	for _, x := range []struct{ h, high, many int }{
		{api.MaxSlices - 1, 1, api.MaxSlices - 1},
		{api.MaxSlices, 1, api.MaxSlices},
		{api.MaxSlices + 1, 1, 0},
		{2*api.MaxSlices - 1, 2, api.MaxSlices},
		{2 * api.MaxSlices, 2, api.MaxSlices},
		{2*api.MaxSlices + 1, 2, 0},
		{7*api.MaxSlices - 6, 7, api.MaxSlices},
		{far, far / api.MaxSlices, api.MaxSlices},
		{far, far/api.MaxSlices + 1, api.MaxSlices},
		{far, far/api.MaxSlices - 1, 0},
		{far, 1, 0},
		{1 << 40, 1, 0},
	} {
		r := of(3, -5, 4, x.h)
		l := rect.Slices(r, x.high)
		if len(l) != x.many {
			t.Errorf("Slices(%v, %d): %d slices, not %d", r, x.high, len(l), x.many)
		}
		if x.many > 0 {
			checkSlices(t, r, x.high, l)
		}
	}
}

// checkSlices holds slices of r, which has something, against P3.4 and P3.7.
func checkSlices(t *testing.T, r api.Rect, high int, l []api.Rect) {
	t.Helper()
	y := r.Y
	for i, s := range l {
		if s.X != r.X || s.W != r.W || s.Y != y {
			t.Errorf("Slices(%v, %d): %v is not at %d", r, high, s, y)
		}
		if s.H < 1 || s.H > high || s.H < high && i < len(l)-1 {
			t.Errorf("Slices(%v, %d): %v is %d high", r, high, s, s.H)
		}
		y += s.H
	}
	if y != r.Y+r.H {
		t.Errorf("Slices(%v, %d): they reach to %d", r, high, y)
	}
}

// TestSlicePoints: P3.4, P3.6 and P3.7: a point is in one slice alone, just if it is in the whole.
func TestSlicePoints(t *testing.T) {
	for _, r := range all(1, 5) {
		for high := -1; high <= 6; high++ {
			l := rect.Slices(r, high)
			if points(r) == 0 || high < 1 {
				if len(l) != 0 {
					t.Errorf("Slices(%v, %d): %v", r, high, l)
				}
				continue
			}
			checkSlices(t, r, high, l)
			var p uint64
			for _, s := range l {
				if p&points(s) != 0 {
					t.Errorf("Slices(%v, %d): %v: a point in two", r, high, l)
				}
				p |= points(s)
			}
			if p != points(r) {
				t.Errorf("Slices(%v, %d): %v: not the points of the whole", r, high, l)
			}
		}
	}
}

// TestHandedIn: P3.5, and R3: rows stay, up to the room behind their ends, and are not kept.
func TestHandedIn(t *testing.T) {
	room := []api.Rect{of(8, 9, 1, 1), of(5, 2, 0, 9), of(2, 3, 1, 1), of(4, 4, 3, -2), of(0, 1, 2, 2), of(71, 72, 5, 5), of(-73, -74, 5, 5)}
	was := slices.Clone(room)
	if h := rect.Hull(room[1:5]...); h != of(0, 1, 3, 3) {
		t.Errorf("Hull of a part: %v", h)
	}
	if !slices.Equal(room, was) {
		t.Errorf("the row that was handed in: %v", room)
	}
	for i := range room {
		room[i] = of(-90, -90, 300, 300)
	}
	if h := rect.Hull(was[1:5]...); h != of(0, 1, 3, 3) {
		t.Errorf("the row that was handed in is kept: %v", h)
	}
}

// TestNewMemory: P3.5: the slices that are answered are nobody else's.
func TestNewMemory(t *testing.T) {
	want := []api.Rect{of(1, 1, 2, 2), of(1, 3, 2, 2), of(1, 5, 2, 1)}
	one := rect.Slices(of(1, 1, 2, 5), 2)
	two := rect.Slices(of(1, 1, 2, 5), 2)
	for i := range one {
		one[i] = of(-7, -7, -7, -7)
	}
	one = append(one, of(-7, -7, -7, -7))
	if three := rect.Slices(of(1, 1, 2, 5), 2); !slices.Equal(two, want) || !slices.Equal(three, want) {
		t.Errorf("the answer is not new memory: %v, %v", two, three)
	}
}

// TestAlways: R1 and R5, of numbers beyond those of which the chapter speaks: there is an answer, and the same one again.
func TestAlways(t *testing.T) {
	ends := []int{math.MinInt, -far, -1, 0, 1, far, math.MaxInt}
	var l []api.Rect
	for i := range len(ends) * len(ends) * len(ends) * len(ends) {
		x, y, w, h := i%7, i/7%7, i/49%7, i/343
		l = append(l, of(ends[x], ends[y], ends[w], ends[h]))
	}
	for i, a := range l {
		b := l[(i*1237+5)%len(l)]
		for _, n := range ends {
			one, two := rect.Slices(a, n), rect.Slices(a, n)
			if !slices.Equal(one, two) || len(one) > api.MaxSlices {
				t.Errorf("Slices(%v, %d): %d, then %d", a, n, len(one), len(two))
			}
			if rect.Moved(a, n, b.X) != rect.Moved(a, n, b.X) || rect.Has(a, n, b.Y) != rect.Has(a, n, b.Y) {
				t.Errorf("Moved, Has of %v: not the same again", a)
			}
		}
		if rect.Meet(a, b) != rect.Meet(a, b) || rect.Within(a, b) != rect.Within(a, b) || rect.Hull(a, b) != rect.Hull(a, b) {
			t.Errorf("Meet, Within, Hull of %v and %v: not the same again", a, b)
		}
		if rect.Of(rect.Across(a), rect.Down(b)) != rect.Of(rect.Across(a), rect.Down(b)) {
			t.Errorf("Of, Across, Down of %v and %v: not the same again", a, b)
		}
	}
	if one, two := rect.Hull(l...), rect.Hull(l...); one != two {
		t.Errorf("Hull: %v, then %v", one, two)
	}
}
