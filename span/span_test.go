package span_test

import (
	"math"
	"slices"
	"testing"

	"gatefold/api"
	"gatefold/span"
)

// The tests that go number by number ask all spans of these places, the empty and the turned ones among them.
const (
	low  = -3
	high = 4
)

func of(a, b int) api.Span { return api.Span{A: a, B: b} }

// all are the spans whose ends lie from a to b.
func all(a, b int) []api.Span {
	var l []api.Span
	for i := a; i <= b; i++ {
		for j := a; j <= b; j++ {
			l = append(l, of(i, j))
		}
	}
	return l
}

// far are spans whose ends are the least and the greatest numbers, and some between.
func far() []api.Span {
	var l []api.Span
	ends := []int{math.MinInt, math.MinInt + 1, -1 << 61, -1, 0, 1, 5, 1 << 61, math.MaxInt - 1, math.MaxInt}
	for _, a := range ends {
		for _, b := range ends {
			l = append(l, of(a, b))
		}
	}
	return l
}

// holds is the chapter's word: the numbers from A on that are below B.
func holds(s api.Span, n int) bool { return n >= s.A && n < s.B }

func anyHolds(l []api.Span, n int) bool {
	return slices.ContainsFunc(l, func(s api.Span) bool { return holds(s, n) })
}

// count is how many numbers of s lie around low to high.
func count(s api.Span) int {
	n := 0
	for i := low - 1; i <= high+1; i++ {
		if holds(s, i) {
			n++
		}
	}
	return n
}

// TestLen: P2.1.
func TestLen(t *testing.T) {
	for _, x := range []struct {
		s    api.Span
		want int
	}{
		{of(2, 5), 3}, {of(5, 2), 0}, {of(0, 0), 0}, {of(7, 7), 0}, {of(7, 8), 1}, {of(-3, 3), 6}, {of(-9, -4), 5}, {of(-4, -9), 0},
		{of(-1<<61, 1<<61), 1 << 62}, {of(1<<61, -1<<61), 0}, {of(0, 1<<61), 1 << 61}, {of(-1<<61, 0), 1 << 61}, {of(1<<61-1, 1<<61), 1},
		{of(math.MaxInt, math.MinInt), 0}, {of(math.MaxInt, math.MaxInt), 0}, {of(math.MinInt, math.MinInt), 0},
	} {
		if n := span.Len(x.s); n != x.want {
			t.Errorf("Len(%v): %d, not %d", x.s, n, x.want)
		}
	}
	for _, s := range all(low, high) {
		if n := span.Len(s); n != count(s) {
			t.Errorf("Len(%v): %d, not %d", s, n, count(s))
		}
	}
}

// TestHas: P2.1.
func TestHas(t *testing.T) {
	for _, x := range []struct {
		s    api.Span
		at   int
		want bool
	}{
		{of(2, 5), 1, false}, {of(2, 5), 2, true}, {of(2, 5), 4, true}, {of(2, 5), 5, false}, {of(2, 5), 6, false},
		{of(5, 2), 3, false}, {of(5, 2), 5, false}, {of(5, 2), 2, false}, {of(3, 3), 3, false}, {of(0, 0), 0, false},
		{of(math.MinInt, math.MaxInt), math.MinInt, true}, {of(math.MinInt, math.MaxInt), math.MaxInt - 1, true},
		{of(math.MinInt, math.MaxInt), math.MaxInt, false}, {of(math.MaxInt, math.MinInt), 0, false},
	} {
		if has := span.Has(x.s, x.at); has != x.want {
			t.Errorf("Has(%v, %d): %v", x.s, x.at, has)
		}
	}
	for _, s := range all(low, high) {
		for n := low - 1; n <= high+1; n++ {
			if has := span.Has(s, n); has != holds(s, n) {
				t.Errorf("Has(%v, %d): %v", s, n, has)
			}
		}
	}
}

// TestMeet: P2.2; the span of nothing is the zero one, wherever it would stand.
func TestMeet(t *testing.T) {
	for _, x := range []struct{ a, b, want api.Span }{
		{of(0, 4), of(2, 9), of(2, 4)},
		{of(0, 2), of(2, 9), of(0, 0)},
		{of(0, 2), of(5, 9), of(0, 0)},
		{of(3, 4), of(2, 9), of(3, 4)},
		{of(2, 9), of(2, 9), of(2, 9)},
		{of(5, 5), of(2, 9), of(0, 0)},
		{of(5, 5), of(5, 5), of(0, 0)},
		{of(8, 3), of(2, 9), of(0, 0)},
		{of(8, 3), of(8, 3), of(0, 0)},
		{of(-9, -4), of(-6, 3), of(-6, -4)},
		{of(math.MinInt, math.MaxInt), of(7, 8), of(7, 8)},
		{of(math.MinInt, 0), of(-1, math.MaxInt), of(-1, 0)},
		{of(math.MinInt, 0), of(0, math.MaxInt), of(0, 0)},
	} {
		if m := span.Meet(x.a, x.b); m != x.want {
			t.Errorf("Meet(%v, %v): %v, not %v", x.a, x.b, m, x.want)
		}
		if m := span.Meet(x.b, x.a); m != x.want {
			t.Errorf("Meet(%v, %v): %v, not %v", x.b, x.a, m, x.want)
		}
	}
}

// TestApart: P2.2.
func TestApart(t *testing.T) {
	for _, x := range []struct {
		a, b api.Span
		want bool
	}{
		{of(0, 4), of(2, 9), false},
		{of(0, 3), of(2, 9), false},
		{of(0, 2), of(2, 9), true},
		{of(0, 1), of(2, 9), true},
		{of(3, 4), of(2, 9), false},
		{of(0, 1), of(0, 1), false},
		{of(5, 5), of(2, 9), true},
		{of(5, 5), of(5, 5), true},
		{of(9, 2), of(2, 9), true},
		{of(9, 2), of(9, 2), true},
		{of(math.MinInt, math.MaxInt), of(math.MaxInt-1, math.MaxInt), false},
		{of(math.MinInt, math.MaxInt), of(math.MaxInt, math.MinInt), true},
	} {
		if span.Apart(x.a, x.b) != x.want || span.Apart(x.b, x.a) != x.want {
			t.Errorf("Apart(%v, %v): not %v", x.a, x.b, x.want)
		}
	}
}

// TestWithin: P2.2; what has nothing is within all, and nothing else is within it.
func TestWithin(t *testing.T) {
	for _, x := range []struct {
		a, b api.Span
		want bool
	}{
		{of(3, 4), of(2, 9), true},
		{of(2, 9), of(2, 9), true},
		{of(2, 4), of(2, 9), true},
		{of(4, 9), of(2, 9), true},
		{of(1, 4), of(2, 9), false},
		{of(4, 10), of(2, 9), false},
		{of(1, 10), of(2, 9), false},
		{of(10, 12), of(2, 9), false},
		{of(9, 10), of(2, 9), false},
		{of(5, 5), of(2, 9), true},
		{of(20, 20), of(2, 9), true},
		{of(30, 1), of(2, 9), true},
		{of(5, 1), of(9, 2), true},
		{of(5, 5), of(9, 9), true},
		{of(5, 6), of(5, 5), false},
		{of(5, 6), of(6, 5), false},
		{of(0, 1), of(0, 0), false},
		{of(math.MinInt, math.MaxInt), of(math.MinInt, math.MaxInt), true},
		{of(math.MinInt, math.MaxInt), of(math.MinInt+1, math.MaxInt), false},
	} {
		if in := span.Within(x.a, x.b); in != x.want {
			t.Errorf("Within(%v, %v): %v", x.a, x.b, in)
		}
	}
}

// TestPairs: P2.2 and P2.6, number by number.
func TestPairs(t *testing.T) {
	for _, a := range all(low, high) {
		for _, b := range all(low, high) {
			m := span.Meet(a, b)
			both, within := 0, true
			for n := low - 1; n <= high+1; n++ {
				in := holds(a, n) && holds(b, n)
				if in {
					both++
				}
				within = within && (!holds(a, n) || holds(b, n))
				if holds(m, n) != in {
					t.Errorf("Meet(%v, %v): %v, wrong at %d", a, b, m, n)
				}
			}
			if both == 0 && m != of(0, 0) {
				t.Errorf("Meet(%v, %v): %v, not the zero span", a, b, m)
			}
			if span.Apart(a, b) != (both == 0) {
				t.Errorf("Apart(%v, %v)", a, b)
			}
			if span.Within(a, b) != within {
				t.Errorf("Within(%v, %v)", a, b)
			}
		}
	}
}

// TestHull: P2.3.
func TestHull(t *testing.T) {
	for _, x := range []struct {
		l    []api.Span
		want api.Span
	}{
		{nil, of(0, 0)},
		{[]api.Span{}, of(0, 0)},
		{[]api.Span{of(7, 9), of(4, 4), of(1, 2)}, of(1, 9)},
		{[]api.Span{of(9, 1)}, of(0, 0)},
		{[]api.Span{of(3, 3), of(8, 2), of(-4, -4)}, of(0, 0)},
		{[]api.Span{of(-4, -2)}, of(-4, -2)},
		{[]api.Span{of(5, 6)}, of(5, 6)},
		{[]api.Span{of(5, 6), of(-90, -90), of(90, 90), of(-80, -81)}, of(5, 6)},
		{[]api.Span{of(90, -90), of(5, 6)}, of(5, 6)},
		{[]api.Span{of(0, 0), of(5, 6)}, of(5, 6)},
		{[]api.Span{of(-6, -5), of(0, 0)}, of(-6, -5)},
		{[]api.Span{of(1, 9), of(2, 3)}, of(1, 9)},
		{[]api.Span{of(2, 3), of(1, 9)}, of(1, 9)},
		{[]api.Span{of(-5, 0), of(0, 5)}, of(-5, 5)},
		{[]api.Span{of(math.MaxInt-1, math.MaxInt), of(math.MinInt, math.MinInt+1)}, of(math.MinInt, math.MaxInt)},
	} {
		if h := span.Hull(x.l...); h != x.want {
			t.Errorf("Hull(%v): %v, not %v", x.l, h, x.want)
		}
	}
}

// leastHull is P2.3's and P2.6's hull, number by number: the least span that has all of the numbers that a span of l has.
func leastHull(l []api.Span) api.Span {
	var hull api.Span
	for n := low - 1; n <= high+1; n++ {
		if anyHolds(l, n) {
			if hull == of(0, 0) {
				hull.A = n
			}
			hull.B = n + 1
		}
	}
	return hull
}

// checkLess holds Less of s and l against P2.4 and P2.6, number by number, and against P2.7.
func checkLess(t *testing.T, s api.Span, l ...api.Span) {
	t.Helper()
	left := span.Less(s, l...)
	for n := low - 1; n <= high+1; n++ {
		if anyHolds(left, n) != (holds(s, n) && !anyHolds(l, n)) {
			t.Errorf("Less(%v, %v): %v, wrong at %d", s, l, left, n)
		}
	}
	checkFew(t, left)
	length, off := 0, 0
	for _, x := range left {
		length += span.Len(x)
	}
	apart := true
	for i, x := range l {
		off += span.Len(span.Meet(s, x))
		for _, y := range l[:i] {
			apart = apart && span.Apart(x, y)
		}
	}
	if apart && length+off != span.Len(s) {
		t.Errorf("Less(%v, %v): %v, %d long, and %d taken off, of %d", s, l, left, length, off, span.Len(s))
	}
}

// checkFew holds spans against P2.4: as few as do, and rising, if each has something, and the next one begins behind its end.
func checkFew(t *testing.T, l []api.Span) {
	t.Helper()
	for i, x := range l {
		if x.B <= x.A {
			t.Errorf("%v: %v has nothing", l, x)
		}
		if i > 0 && x.A <= l[i-1].B {
			t.Errorf("%v: %v doesn't stand behind the one ahead", l, x)
		}
	}
}

// TestRows: P2.3, P2.4, P2.6 and P2.7 of no, one and two others.
func TestRows(t *testing.T) {
	l := all(low, high)
	for _, s := range l {
		checkLess(t, s)
		for _, a := range l {
			checkLess(t, s, a)
		}
	}
	for _, a := range l {
		for _, b := range l {
			for _, s := range []api.Span{of(low, high), of(low+1, high-1), of(-1, 1), of(2, 2), of(high, low)} {
				checkLess(t, s, a, b)
			}
			if h, want := span.Hull(a, b), leastHull([]api.Span{a, b}); h != want {
				t.Errorf("Hull(%v, %v): %v, not %v", a, b, h, want)
			}
		}
	}
}

// TestThrees: P2.3, P2.4, P2.6 and P2.7 of three others.
func TestThrees(t *testing.T) {
	l := all(-1, 3)
	for _, a := range l {
		for _, b := range l {
			for _, c := range l {
				checkLess(t, of(-2, 4), a, b, c)
				checkLess(t, of(0, 3), a, b, c)
				if h, want := span.Hull(a, b, c), leastHull([]api.Span{a, b, c}); h != want {
					t.Errorf("Hull(%v, %v, %v): %v, not %v", a, b, c, h, want)
				}
			}
		}
	}
}

// TestLess: P2.4.
func TestLess(t *testing.T) {
	for _, x := range []struct {
		s       api.Span
		l, want []api.Span
	}{
		{of(0, 10), nil, []api.Span{of(0, 10)}},
		{of(3, 3), nil, nil},
		{of(9, 3), nil, nil},
		{of(9, 3), []api.Span{of(4, 5)}, nil},
		{of(0, 10), []api.Span{of(2, 3), of(5, 20)}, []api.Span{of(0, 2), of(3, 5)}},
		{of(0, 10), []api.Span{of(5, 20), of(2, 3)}, []api.Span{of(0, 2), of(3, 5)}},
		{of(0, 10), []api.Span{of(0, 10)}, nil},
		{of(0, 10), []api.Span{of(-1, 11)}, nil},
		{of(0, 10), []api.Span{of(0, 5), of(5, 10)}, nil},
		{of(0, 10), []api.Span{of(0, 4), of(5, 10)}, []api.Span{of(4, 5)}},
		{of(0, 10), []api.Span{of(-5, 1), of(9, 30)}, []api.Span{of(1, 9)}},
		{of(0, 10), []api.Span{of(-5, 0), of(10, 30)}, []api.Span{of(0, 10)}},
		{of(0, 10), []api.Span{of(2, 8), of(3, 4)}, []api.Span{of(0, 2), of(8, 10)}},
		{of(0, 10), []api.Span{of(2, 4), of(2, 8), of(2, 3)}, []api.Span{of(0, 2), of(8, 10)}},
		{of(0, 10), []api.Span{of(2, 4), of(4, 6)}, []api.Span{of(0, 2), of(6, 10)}},
		{of(0, 10), []api.Span{of(4, 4)}, []api.Span{of(0, 10)}},
		{of(0, 10), []api.Span{of(6, 4)}, []api.Span{of(0, 10)}},
		{of(0, 10), []api.Span{of(0, 0), of(10, 10)}, []api.Span{of(0, 10)}},
		{of(math.MinInt, math.MaxInt), []api.Span{of(-1, 1)}, []api.Span{of(math.MinInt, -1), of(1, math.MaxInt)}},
		{of(-1, 1), []api.Span{of(math.MinInt, math.MaxInt)}, nil},
		{
			of(math.MinInt, math.MaxInt),
			[]api.Span{of(math.MaxInt-1, math.MaxInt), of(-1, 1), of(math.MinInt, math.MinInt+1)},
			[]api.Span{of(math.MinInt+1, -1), of(1, math.MaxInt-1)},
		},
	} {
		if l := span.Less(x.s, x.l...); !slices.Equal(l, x.want) {
			t.Errorf("Less(%v, %v): %v, not %v", x.s, x.l, l, x.want)
		}
	}
}

// TestLong: P2.4, P2.6 and P2.7 of more spans than a short row has, in no order.
func TestLong(t *testing.T) {
	const n = 3000
	var l, want []api.Span
	for i := range n {
		k := i * 1237 % n // 1237 and n share no factor: each k once
		l = append(l, of(10*k+3, 10*k+5), of(10*k+4, 10*k+7), of(10*k+4, 10*k+4))
	}
	from := 0
	for k := range n {
		want = append(want, of(from, 10*k+3))
		from = 10*k + 7
	}
	want = append(want, of(from, 10*n))
	if left := span.Less(of(0, 10*n), l...); !slices.Equal(left, want) {
		t.Errorf("Less of %d spans: %d spans", len(l), len(left))
	}
	if h := span.Hull(l...); h != of(3, 10*n-3) {
		t.Errorf("Hull of %d spans: %v", len(l), h)
	}
}

// TestHandedIn: P2.5, and R3: rows stay, up to the room behind their ends, and what is answered is nobody else's.
func TestHandedIn(t *testing.T) {
	room := []api.Span{of(8, 9), of(5, 20), of(2, 3), of(4, 4), of(71, 72), of(73, 74)}
	was := slices.Clone(room)
	l := room[1:4]
	left := span.Less(of(0, 10), l...)
	span.Hull(l...)
	if !slices.Equal(room, was) {
		t.Errorf("the row that was handed in: %v", room)
	}
	again := span.Less(of(0, 10), l...)
	for i := range left {
		left[i] = of(-7, -7)
	}
	if !slices.Equal(room, was) || !slices.Equal(again, []api.Span{of(0, 2), of(3, 5)}) {
		t.Errorf("the answer is not new memory: %v, %v", room, again)
	}
	for i := range room {
		room[i] = of(-8, -8)
	}
	if !slices.Equal(again, []api.Span{of(0, 2), of(3, 5)}) {
		t.Errorf("the row that was handed in is kept: %v", again)
	}
}

// TestWholeRow: P2.5, where Less takes nothing off.
func TestWholeRow(t *testing.T) {
	room := []api.Span{of(0, 10), of(11, 12)}
	left := span.Less(of(0, 10), room[1:]...)
	left[0].A = 5
	if again := span.Less(of(0, 10), room[1:]...); !slices.Equal(again, []api.Span{of(0, 10)}) || room[0] != of(0, 10) || room[1] != of(11, 12) {
		t.Errorf("Less: %v; handed in: %v", again, room)
	}
}

// TestAlways: R1 and R5, at the ends of all numbers: there is an answer, and the same one again; and P2.2 holds.
func TestAlways(t *testing.T) {
	l := far()
	for _, a := range l {
		span.Len(a)
		for _, b := range l {
			m := span.Meet(a, b)
			for _, n := range []int{math.MinInt, -1 << 61, -1, 0, 1, 1 << 61, math.MaxInt} {
				if span.Has(m, n) != (span.Has(a, n) && span.Has(b, n)) {
					t.Errorf("Meet(%v, %v): %v, wrong at %d", a, b, m, n)
				}
			}
			if span.Within(m, a) && span.Within(m, b) && span.Apart(a, b) == (m == of(0, 0)) {
				checkFew(t, span.Less(a, b))
				continue
			}
			t.Errorf("Meet(%v, %v): %v", a, b, m)
		}
	}
	if x, y := span.Less(of(math.MinInt, math.MaxInt), l...), span.Less(of(math.MinInt, math.MaxInt), l...); !slices.Equal(x, y) {
		t.Errorf("Less: %v, then %v", x, y)
	}
}
