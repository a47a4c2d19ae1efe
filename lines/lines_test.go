package lines_test

import (
	"slices"
	"testing"

	"gatefold/api"
	"gatefold/lines"
	"gatefold/words"
)

// one is the float of the chapter's examples.
func one() []api.Floater { return []api.Floater{left(0, 0, 30, 20)} }

// has holds the room of something w wide among l's floats against what is asked.
func has(t *testing.T, l []api.Floater, w int, q ask, band api.Span, at int) {
	t.Helper()
	if b, y := lines.Room(l, w, q.high, q.y, q.in); b != band || y != at {
		t.Fatalf("Room(%v, %d, %v): %v, %d, not %v, %d", l, w, q, b, y, band, at)
	}
}

// set is the line of x from the word at from on, beside l's floats.
func set(l []api.Floater, x text, from int) api.Set {
	return lines.Line(l, x.words, x.space, x.high, from, x.y, x.in)
}

// all is the lines of x beside l's floats.
func all(l []api.Floater, x text) []api.Set {
	return lines.Text(l, x.words, x.space, x.high, x.y, x.in)
}

// reads holds the lines of x beside l's floats against what is asked.
func reads(t *testing.T, l []api.Floater, x text, want ...api.Set) {
	t.Helper()
	if got := all(l, x); !slices.Equal(got, want) {
		t.Fatalf("Text(%v, %v): %v, not %v", l, x, got, want)
	}
}

// TestExamples: P12.1, P12.2 and P12.3, the chapter's examples.
func TestExamples(t *testing.T) {
	x := text{ask{10, 0, sp(0, 100)}, []int{30, 20, 10, 40}, 5}
	reads(t, one(), x, api.Set{From: 0, To: 3, X: 30, Y: 0, W: 70}, api.Set{From: 3, To: 4, X: 30, Y: 10, W: 40})
	x.ask = ask{10, 5, sp(0, 55)}
	if s := set(one(), x, 0); s != (api.Set{From: 0, To: 2, X: 0, Y: 20, W: 55}) {
		t.Errorf("Line: %v", s)
	}
	has(t, one(), 80, ask{5, 0, sp(0, 100)}, sp(0, 100), 20)
	has(t, one(), 300, ask{5, 0, sp(0, 100)}, sp(0, 100), 20)
}

// TestRoom: P12.1, of all rows of floats, widths, heights and spans of the fields.
func TestRoom(t *testing.T) {
	eachRoom(func(l []api.Floater, w int, q ask) {
		band, at := q.room(l, w)
		has(t, l, w, q, band, at)
	})
}

// TestHeightByHeight: P12.1: there is no height from the first one on, ahead of the one that is answered, at which it has room, be it one of the next ones or not.
func TestHeightByHeight(t *testing.T) {
	eachRoom(func(l []api.Floater, w int, q ask) {
		at := q.y
		for !q.fits(l, w, at) {
			at++
		}
		has(t, l, w, q, q.band(l, at), at)
	})
}

// TestRoomEdges: P12.1, where something just has room, or just doesn't.
func TestRoomEdges(t *testing.T) {
	in := sp(40, 60)
	stair := []api.Floater{left(40, 0, 9, 9), left(40, 0, 12, 7), right(45, 0, 15, 3)}
	narrow := []api.Floater{left(40, 0, 15, 9), right(45, 0, 15, 9)}
	for i, c := range []struct {
		l    []api.Floater
		w    int
		q    ask
		band api.Span
		at   int
	}{
		// As wide as the band, and wider by one.
		{[]api.Floater{left(40, 0, 5, 9)}, 15, ask{1, 0, in}, sp(45, 60), 0},
		{[]api.Floater{left(40, 0, 5, 9)}, 16, ask{1, 0, in}, sp(40, 60), 9},
		{[]api.Floater{right(55, 0, 5, 9)}, 15, ask{1, 0, in}, sp(40, 55), 0},
		{[]api.Floater{right(55, 0, 5, 9)}, 16, ask{1, 0, in}, sp(40, 60), 9},
		{[]api.Floater{left(40, 0, 5, 9), right(55, 0, 5, 7)}, 10, ask{1, 0, in}, sp(45, 55), 0},
		{[]api.Floater{left(40, 0, 5, 9), right(55, 0, 5, 7)}, 11, ask{1, 0, in}, sp(45, 60), 7},
		{[]api.Floater{left(40, 0, 5, 9), right(55, 0, 5, 7)}, 16, ask{1, 0, in}, sp(40, 60), 9},
		// As wide as the span, and wider by one: below all that narrow it.
		{[]api.Floater{left(40, 0, 5, 9)}, 20, ask{1, 0, in}, in, 9},
		{[]api.Floater{left(40, 0, 5, 9)}, 21, ask{1, 0, in}, in, 9},
		{[]api.Floater{right(55, 0, 5, 9), left(40, 0, 5, 12)}, most, ask{1, 0, in}, in, 12},
		// What doesn't narrow the span is in nobody's way.
		{[]api.Floater{left(0, 0, 40, 9), right(60, 0, 9, 9)}, 20, ask{1, 3, in}, in, 3},
		{[]api.Floater{left(0, 0, 40, 9), right(60, 0, 9, 9)}, 99, ask{1, 3, in}, in, 3},
		{[]api.Floater{left(0, 0, 41, 9), right(60, 0, 9, 99)}, 20, ask{1, 0, in}, in, 9},
		{[]api.Floater{left(0, 0, 40, 9), right(59, 0, 9, 4)}, 20, ask{1, 0, in}, in, 4},
		// A float further down counts as far as the strip reaches, and no more.
		{[]api.Floater{left(40, 5, 5, 4)}, 20, ask{5, 0, in}, in, 0},
		{[]api.Floater{left(40, 5, 5, 4)}, 20, ask{6, 0, in}, in, 9},
		{[]api.Floater{left(40, 5, 5, 4)}, 15, ask{6, 0, in}, sp(45, 60), 0},
		{[]api.Floater{left(40, 5, 5, 4)}, 20, ask{6, -1, in}, in, -1},
		{[]api.Floater{left(40, 5, 5, 4)}, 20, ask{6, -2, in}, in, -2},
		{[]api.Floater{left(40, 5, 5, 4)}, 20, ask{most, 8, in}, in, 9},
		{[]api.Floater{left(40, 5, 5, 4)}, 20, ask{most, 9, in}, in, 9},
		// A gap between two floats that is as high, and one that is less.
		{[]api.Floater{left(40, 0, 5, 4), left(40, 9, 5, 4)}, 20, ask{5, 1, in}, in, 4},
		{[]api.Floater{left(40, 0, 5, 4), left(40, 9, 5, 4)}, 20, ask{6, 1, in}, in, 13},
		{[]api.Floater{left(40, 0, 8, 4), right(55, 9, 5, 4)}, 15, ask{5, 1, in}, in, 4},
		{[]api.Floater{left(40, 0, 8, 4), right(55, 9, 5, 4)}, 15, ask{6, 1, in}, sp(40, 55), 4},
		{[]api.Floater{left(40, 0, 8, 4), right(55, 9, 5, 4)}, 12, ask{8, 1, in}, sp(48, 60), 1},
		{[]api.Floater{left(40, 0, 8, 4), right(55, 9, 5, 4)}, 12, ask{9, 1, in}, sp(40, 55), 4},
		{[]api.Floater{left(40, 0, 8, 4), right(55, 9, 5, 4)}, 7, ask{9, 1, in}, sp(48, 55), 1},
		// Something that isn't high counts as 1 high.
		{[]api.Floater{left(40, 5, 5, 4)}, 20, ask{0, 4, in}, in, 4},
		{[]api.Floater{left(40, 5, 5, 4)}, 20, ask{0, 5, in}, in, 9},
		// Each next height from the one ahead, whatever the order of the floats.
		{stair, 6, ask{1, 0, in}, sp(52, 60), 3},
		{stair, 9, ask{1, 0, in}, sp(49, 60), 7},
		{stair, 12, ask{1, 0, in}, in, 9},
		{stair, 12, ask{1, 8, in}, in, 9},
		{stair, 12, ask{1, -1, in}, in, -1},
		{stair, 12, ask{2, -1, in}, in, 9},
		// What isn't wide has room anywhere, even where floats leave nothing.
		{narrow, 0, ask{1, 0, in}, sp(55, 45), 0},
		{narrow, 1, ask{1, 0, in}, in, 9},
		// A side that is not the left one is the right one.
		{[]api.Floater{{Side: 0, X: 55, W: 9, H: 9}}, 4, ask{1, 0, in}, sp(40, 55), 0},
		{[]api.Floater{{Side: 3, X: 55, W: 9, H: 9}}, 4, ask{1, 0, in}, sp(40, 55), 0},
		// A span that has nothing has room for nothing that is wide, but where nothing makes it another one.
		{[]api.Floater{left(0, 0, 50, 9)}, 1, ask{1, 0, sp(45, 45)}, sp(45, 45), 9},
		{[]api.Floater{left(0, 0, 50, 9)}, 0, ask{1, 0, sp(45, 45)}, sp(50, 45), 0},
		{[]api.Floater{left(0, 0, 50, 9)}, 1, ask{1, 0, sp(50, 50)}, sp(50, 50), 0},
		{[]api.Floater{right(50, 0, 9, 9)}, 1, ask{1, 0, sp(60, 55)}, sp(60, 55), 9},
		{[]api.Floater{right(55, 0, 9, 9)}, 1, ask{1, 0, sp(60, 55)}, sp(60, 55), 0},
	} {
		if band, at := lines.Room(c.l, c.w, c.q.high, c.q.y, c.q.in); band != c.band || at != c.at {
			t.Errorf("%d: Room(%v, %d, %v): %v, %d, not %v, %d", i, c.l, c.w, c.q, band, at, c.band, c.at)
		}
	}
}

// TestLine: P12.2, of all texts of the fields, from all their words on, and from places of none.
func TestLine(t *testing.T) {
	eachText(func(l []api.Floater, x text) {
		for from := -1; from < len(x.words)+2; from++ {
			if s, want := set(l, x, from), x.line(l, from, x.y); s != want {
				t.Fatalf("Line(%v, %v) from %d: %v, not %v", l, x, from, s, want)
			}
		}
	})
}

// TestLineNone: P12.2: from what is no word's place on there is no line, beside what floats ever.
func TestLineNone(t *testing.T) {
	for _, l := range [][]api.Floater{nil, one()} {
		for _, words := range [][]int{nil, {}, {30}, {30, 20, 10, 40}} {
			for _, from := range odds() {
				x := text{ask{10, 7, sp(3, 100)}, words, 5}
				s, is := set(l, x, from), 0 <= from && from < len(words)
				if is && (s.From != from || s.To <= from) || !is && s != (api.Set{}) {
					t.Errorf("%v, %v from %d: %v", l, words, from, s)
				}
			}
		}
	}
}

// TestLineEdges: P12.2, which words a line has, and where it stands.
func TestLineEdges(t *testing.T) {
	in := sp(40, 60)
	for i, c := range []struct {
		l    []api.Floater
		x    text
		from int
		want api.Set
	}{
		// Its word goes down, and then it has as many as that band has room for.
		{[]api.Floater{left(40, 0, 5, 9)}, text{ask{1, 0, in}, []int{5, 9, 1}, 1}, 0, api.Set{From: 0, To: 2, X: 45, Y: 0, W: 15}},
		{[]api.Floater{left(40, 0, 5, 9)}, text{ask{1, 0, in}, []int{5, 10, 1}, 1}, 0, api.Set{From: 0, To: 1, X: 45, Y: 0, W: 5}},
		{[]api.Floater{left(40, 0, 5, 9)}, text{ask{1, 9, in}, []int{5, 10, 1}, 1}, 0, api.Set{From: 0, To: 3, X: 40, Y: 9, W: 18}},
		{[]api.Floater{left(40, 0, 5, 9)}, text{ask{1, 0, in}, []int{16, 3, 1}, 1}, 0, api.Set{From: 0, To: 2, X: 40, Y: 9, W: 20}},
		// That the words behind it are wider, or that it would have more of them farther down, moves it nowhere.
		{[]api.Floater{left(40, 0, 15, 9)}, text{ask{1, 0, in}, []int{5, 20}, 0}, 0, api.Set{From: 0, To: 1, X: 55, Y: 0, W: 5}},
		{[]api.Floater{left(40, 0, 15, 9)}, text{ask{1, 0, in}, []int{5, 20}, 0}, 1, api.Set{From: 1, To: 2, X: 40, Y: 9, W: 20}},
		// The word at from counts, not the first one, nor the one ahead.
		{[]api.Floater{left(40, 0, 5, 9)}, text{ask{1, 0, in}, []int{20, 5, 9}, 1}, 1, api.Set{From: 1, To: 3, X: 45, Y: 0, W: 15}},
		{[]api.Floater{left(40, 0, 5, 9)}, text{ask{1, 0, in}, []int{1, 20, 9}, 1}, 1, api.Set{From: 1, To: 2, X: 40, Y: 9, W: 20}},
		// Right floats end the band where they begin; the line begins with it all the same.
		{[]api.Floater{right(55, 0, 5, 9)}, text{ask{1, 0, in}, []int{5, 10, 1}, 0}, 0, api.Set{From: 0, To: 2, X: 40, Y: 0, W: 15}},
		// All of it stands beside the floats, as high as it is.
		{[]api.Floater{left(40, 5, 5, 4)}, text{ask{5, 0, in}, []int{16}, 0}, 0, api.Set{From: 0, To: 1, X: 40, Y: 0, W: 16}},
		{[]api.Floater{left(40, 5, 5, 4)}, text{ask{6, 0, in}, []int{16}, 0}, 0, api.Set{From: 0, To: 1, X: 40, Y: 9, W: 16}},
		{[]api.Floater{left(40, 5, 5, 4)}, text{ask{6, 0, in}, []int{15, 1}, 0}, 0, api.Set{From: 0, To: 1, X: 45, Y: 0, W: 15}},
		// What is wider than the span stands where nothing narrows it, alone.
		{[]api.Floater{left(40, 0, 5, 9)}, text{ask{1, 0, in}, []int{21, 0}, 0}, 0, api.Set{From: 0, To: 1, X: 40, Y: 9, W: 21}},
		{[]api.Floater{left(40, 0, 5, 9)}, text{ask{1, 0, in}, []int{20, 0}, 0}, 0, api.Set{From: 0, To: 2, X: 40, Y: 9, W: 20}},
		// What isn't wide stands where floats leave nothing, with all that isn't, either.
		{[]api.Floater{left(40, 0, 15, 9), right(45, 0, 15, 9)}, text{ask{1, 0, in}, []int{0, 0, 1}, 0}, 0, api.Set{From: 0, To: 2, X: 55, Y: 0, W: 0}},
		{[]api.Floater{left(40, 0, 15, 9), right(45, 0, 15, 9)}, text{ask{1, 0, in}, []int{0, 0, 1}, 1}, 0, api.Set{From: 0, To: 1, X: 55, Y: 0, W: 0}},
		// In a span that has nothing.
		{nil, text{ask{1, 3, sp(9, 4)}, []int{2, 0}, 0}, 0, api.Set{From: 0, To: 1, X: 9, Y: 3, W: 2}},
		{[]api.Floater{left(0, 0, 5, 9)}, text{ask{1, 3, sp(4, 4)}, []int{2, 0}, 0}, 0, api.Set{From: 0, To: 1, X: 4, Y: 9, W: 2}},
	} {
		if s := set(c.l, c.x, c.from); s != c.want {
			t.Errorf("%d: Line(%v, %v) from %d: %v, not %v", i, c.l, c.x, c.from, s, c.want)
		}
	}
}

// TestText: P12.3, of all texts of the fields.
func TestText(t *testing.T) {
	eachText(func(l []api.Floater, x text) { reads(t, l, x, x.lines(l)...) })
}

// TestTextEdges: P12.3, from where on each next line goes down.
func TestTextEdges(t *testing.T) {
	in := sp(40, 60)
	for i, c := range []struct {
		l    []api.Floater
		x    text
		want []api.Set
	}{
		// From below the line ahead: where it is, not where it went down from.
		{[]api.Floater{left(40, 0, 5, 9)}, text{ask{2, 0, in}, []int{20, 20, 20}, 0}, []api.Set{{From: 0, To: 1, X: 40, Y: 9, W: 20}, {From: 1, To: 2, X: 40, Y: 11, W: 20}, {From: 2, To: 3, X: 40, Y: 13, W: 20}}},
		// The last one beside a float, which ends in the midst of it, just ahead of it, or where it ends.
		{[]api.Floater{left(40, 0, 5, 9)}, text{ask{4, 0, in}, []int{15, 15, 15, 15}, 0}, []api.Set{{From: 0, To: 1, X: 45, Y: 0, W: 15}, {From: 1, To: 2, X: 45, Y: 4, W: 15}, {From: 2, To: 3, X: 45, Y: 8, W: 15}, {From: 3, To: 4, X: 40, Y: 12, W: 15}}},
		{[]api.Floater{left(40, 0, 5, 8)}, text{ask{4, 0, in}, []int{15, 15, 15}, 0}, []api.Set{{From: 0, To: 1, X: 45, Y: 0, W: 15}, {From: 1, To: 2, X: 45, Y: 4, W: 15}, {From: 2, To: 3, X: 40, Y: 8, W: 15}}},
		// Each by its own word: one that went down isn't gone back up from.
		{[]api.Floater{left(40, 0, 5, 9), right(50, 0, 10, 3)}, text{ask{1, 0, in}, []int{5, 14, 3, 16, 1}, 1}, []api.Set{{From: 0, To: 1, X: 45, Y: 0, W: 5}, {From: 1, To: 2, X: 45, Y: 3, W: 14}, {From: 2, To: 3, X: 45, Y: 4, W: 3}, {From: 3, To: 5, X: 40, Y: 9, W: 18}}},
		// From one float's band into another's, further down.
		{[]api.Floater{left(40, 0, 5, 3), right(55, 3, 5, 3)}, text{ask{3, 0, in}, []int{9, 9, 9}, 0}, []api.Set{{From: 0, To: 1, X: 45, Y: 0, W: 9}, {From: 1, To: 2, X: 40, Y: 3, W: 9}, {From: 2, To: 3, X: 40, Y: 6, W: 9}}},
		// Above the floats, and below them.
		{one(), text{ask{10, -10, sp(0, 50)}, []int{50, 50}, 0}, []api.Set{{From: 0, To: 1, X: 0, Y: -10, W: 50}, {From: 1, To: 2, X: 0, Y: 20, W: 50}}},
		{one(), text{ask{10, 20, sp(0, 50)}, []int{50, 50}, 0}, []api.Set{{From: 0, To: 1, X: 0, Y: 20, W: 50}, {From: 1, To: 2, X: 0, Y: 30, W: 50}}},
	} {
		if got := all(c.l, c.x); !slices.Equal(got, c.want) {
			t.Errorf("%d: Text(%v, %v): %v, not %v", i, c.l, c.x, got, c.want)
		}
	}
}

// TestNone: P12.3 and R3: no lines without words; an empty row is as good as nil.
func TestNone(t *testing.T) {
	for _, q := range asks([]int{0, 1, most}, []int{-far, 0, 7, far}, []api.Span{sp(0, 100), sp(7, 7), sp(9, 4)}) {
		for _, l := range [][]api.Floater{nil, {}, one()[:0], one()} {
			for _, words := range [][]int{nil, {}} {
				if got := all(l, text{q, words, 5}); len(got) != 0 {
					t.Errorf("%v, %v: %v", l, q, got)
				}
			}
		}
		for _, l := range [][]api.Floater{nil, {}, one()[:0]} {
			for _, w := range []int{0, 100, 101, most} {
				has(t, l, w, q, q.in, q.y)
			}
		}
	}
}

// TestOnlyPlaces: P12.1 to P12.3: floats' nodes and anchors don't count.
func TestOnlyPlaces(t *testing.T) {
	x := text{ask{10, 0, sp(0, 100)}, []int{30, 20, 10, 80}, 5}
	for _, n := range odds() {
		l := one()
		l[0].Node, l[0].Anchor = n, n
		has(t, l, 70, x.ask, sp(30, 100), 0)
		reads(t, l, x, api.Set{From: 0, To: 3, X: 30, Y: 0, W: 70}, api.Set{From: 3, To: 4, X: 0, Y: 20, W: 80})
	}
}

// TestStays: P12.4 and R3: neither floats nor words change, nor the room behind them, and what stands in that room doesn't count.
func TestStays(t *testing.T) {
	floats := append(one(), right(40, 0, 90, 30), left(0, 25, 90, 90))
	wide := []int{30, 20, 10, 40, 1, 1}
	wasFloats, wasWide := slices.Clone(floats), slices.Clone(wide)
	l := floats[:1]
	for y := -15; y < 30; y++ {
		x := text{ask{10, y, sp(0, 60)}, wide[:4], 5}
		band, at := x.room(wasFloats[:1], 40)
		has(t, l, 40, x.ask, band, at)
		if s, want := set(l, x, 3), x.line(wasFloats[:1], 3, y); s != want {
			t.Fatalf("at %d: Line: %v, not %v", y, s, want)
		}
		reads(t, l, x, x.lines(wasFloats[:1])...)
		if !slices.Equal(floats, wasFloats) || !slices.Equal(wide, wasWide) {
			t.Fatalf("at %d: now %v, %v", y, floats, wide)
		}
	}
}

// TestNew: P12.4 and R3: what is answered is new memory, each time.
func TestNew(t *testing.T) {
	l, x := one(), text{ask{10, 0, sp(0, 100)}, []int{30, 20, 10, 40}, 5}
	got, other := all(l, x), all(l, x)
	clear(got[:cap(got)])
	want := x.lines(l)
	clear(l)
	clear(x.words)
	if !slices.Equal(other, want) {
		t.Errorf("now %v, not %v", other, want)
	}
}

// TestSame: R5: what was asked ahead doesn't show.
func TestSame(t *testing.T) {
	x := text{ask{10, 0, sp(0, 100)}, []int{30, 20, 10, 40}, 5}
	for _, n := range odds() {
		odd := text{ask{n, n, sp(n, n)}, []int{n, n}, n}
		lines.Room(one(), n, n, n, odd.in)
		set(one(), odd, 0)
		all(one(), odd)
		has(t, one(), 80, x.ask, sp(0, 100), 20)
		reads(t, one(), x, api.Set{From: 0, To: 3, X: 30, Y: 0, W: 70}, api.Set{From: 3, To: 4, X: 30, Y: 10, W: 40})
	}
}

// TestBeside: P12.5, point by point: a line that is not wider than its band has no point in a float; lines stand one below the other, and have all words, in order.
func TestBeside(t *testing.T) {
	eachText(func(l []api.Floater, x text) {
		from, y := 0, x.y
		for _, s := range all(l, x) {
			if s.From != from || s.To <= from || s.Y < y {
				t.Fatalf("%v, %v: %v, not from %d, below %d", l, x, s, from, y)
			}
			if s.W <= long(x.band(l, s.Y)) && x.inside(l, s) {
				t.Fatalf("%v, %v: %v has a point in a float", l, x, s)
			}
			from, y = s.To, s.Y+x.high
		}
		if from != len(x.words) {
			t.Fatalf("%v, %v: up to the word %d", l, x, from)
		}
	})
}

// TestOverlong: P12.6.
func TestOverlong(t *testing.T) {
	eachText(func(l []api.Floater, x text) {
		for _, s := range all(l, x) {
			band := x.band(l, s.Y)
			over := s.To-s.From == 1 && x.words[s.From] > long(x.in) && band == x.in
			if over != (s.W > long(band)) {
				t.Fatalf("%v, %v: %v in %v", l, x, s, band)
			}
		}
	})
}

// TestWithoutFloats: P12.7: without floats, or beside such as are in nobody's way, lines are those of words.
func TestWithoutFloats(t *testing.T) {
	clear := []api.Floater{left(-9, -9, 8, 99), left(0, -9, 9, 0), right(11, -9, 9, 99), right(2, 0, 9, -1)}
	qs := asks([]int{1, 7, most}, []int{-far, -3, 0, 5}, []api.Span{sp(-1, 11), sp(3, 5), sp(4, 4), sp(6, 2)})
	for _, x := range texts(qs, 4, []int{0, 2, 5, 13}, []int{0, 1, 3}) {
		var want []api.Set
		for i, r := range words.All(x.words, x.space, long(x.in)) {
			want = append(want, api.Set{From: r.From, To: r.To, X: x.in.A, Y: x.y + i*x.high, W: r.W})
		}
		reads(t, nil, x, want...)
		reads(t, clear, x, want...)
	}
}

// TestFar: P12.1 to P12.3 and R6: as far out as the chapter speaks of, all is as with small numbers.
func TestFar(t *testing.T) {
	const n = most / 8
	fs := floats([]int{1, 2}, []int{-8, 7}, []int{-8, 2, 8}, []int{1, 8}, []int{1, 8})
	all := texts(asks([]int{1, 8}, []int{-8, 0, 8}, []api.Span{sp(-8, 8), sp(0, 7)}), 2, []int{0, 1, 8}, []int{0, 8})
	rows(2, fs, func(l []api.Floater) {
		great := slices.Clone(l)
		for i, f := range great {
			great[i] = api.Floater{Side: f.Side, X: f.X * n, Y: f.Y * n, W: f.W * n, H: f.H * n}
		}
		for _, x := range all {
			far := text{ask{x.high * n, x.y * n, sp(x.in.A*n, x.in.B*n)}, slices.Clone(x.words), x.space * n}
			want := x.lines(l)
			for i, w := range x.words {
				far.words[i] = w * n
			}
			for i, s := range want {
				want[i] = api.Set{From: s.From, To: s.To, X: s.X * n, Y: s.Y * n, W: s.W * n}
			}
			reads(t, great, far, want...)
		}
	})
}

// TestFarEdges: P12.1 to P12.3 and R6, one unit off the last numbers that the chapter speaks of.
func TestFarEdges(t *testing.T) {
	l := []api.Floater{left(-far, far-1, far, far), right(most-1, far-1, far, far)}
	has(t, l, most-1, ask{most, far, sp(0, far)}, sp(0, most-1), far)
	has(t, l, most, ask{most, far, sp(0, far)}, sp(0, far), 2*far-1)
	has(t, l, most, ask{most, far - most, sp(0, far)}, sp(0, far), 2*far-1)
	has(t, l, most, ask{most, far - 1 - most, sp(0, far)}, sp(0, far), far-1-most)
	has(t, l, most, ask{most, -far, sp(-far, -far)}, sp(-far, -far), -far)
	x := text{ask{most, far, sp(0, most)}, []int{most - 2, 1, most}, 0}
	reads(t, l, x, api.Set{From: 0, To: 2, X: 0, Y: far, W: most - 1}, api.Set{From: 2, To: 3, X: 0, Y: 2*far - 1, W: most})
	x.words, x.space = []int{most - 3, 1, most}, most
	reads(t, l, x, api.Set{From: 0, To: 1, X: 0, Y: far, W: most - 3}, api.Set{From: 1, To: 2, X: 0, Y: far + most, W: 1}, api.Set{From: 2, To: 3, X: 0, Y: 2*far - 1, W: most})
}

// TestMany: P12.1 and P12.3, of many words, beside stairs of many floats on both sides, down to the last one.
func TestMany(t *testing.T) {
	const many = 1000
	var l []api.Floater
	for i := range many {
		k := i * 7919 % many // 7919 and many share no factor: each k once
		l = append(l, left(0, 0, many-k, k+1), right(2*many+k, 0, 9, k+1))
	}
	in := sp(0, 3*many)
	for _, y := range []int{-2, 0, 1, 777, many - 1, many} {
		// From 0 on the band is many wide and twice the height: 2 more a step.
		for _, wide := range []int{many + 1, 2*many - 1, 3*many - 2} {
			at := max(y, (wide-many+1)/2)
			if y == -2 {
				at = y
			}
			band := sp(many-at, 2*many+at)
			if at < 0 || at >= many {
				band = in
			}
			has(t, l, wide, ask{2, y, in}, band, at)
		}
		has(t, l, 3*many, ask{3, max(y, 0), in}, in, many)
	}
	x := text{ask{1, 0, in}, slices.Repeat([]int{many}, 2*many), 0}
	got := all(l, x)
	// One each at first, then two from where the band is twice as wide, then three below all of it.
	for y, s := range got {
		n := 1 + min(y, many)*2/many
		if s.Y != y || s.X != max(0, many-y) || s.W != n*many && s.To != len(x.words) {
			t.Fatalf("the line %d: %v", y, s)
		}
	}
	if last := got[len(got)-1]; last.To != len(x.words) || last.Y < many {
		t.Errorf("the last line: %v", last)
	}
	// As many words as the chapter on them speaks of, each as high as can be told.
	x = text{ask{most, 0, sp(0, 2)}, slices.Repeat([]int{2}, 100_000), 0}
	for i, s := range all(nil, x) {
		if s != (api.Set{From: i, To: i + 1, Y: i * most, W: 2}) {
			t.Fatalf("the line %d: %v", i, s)
		}
	}
}

// TestBeyond: R1: of numbers that the chapter doesn't speak of calls come to an end.
func TestBeyond(t *testing.T) {
	for _, a := range odds() {
		for _, b := range odds() {
			for _, c := range odds() {
				l := []api.Floater{left(a, b, c, a), right(c, a, b, c), {Side: a, X: b, Y: c, W: b, H: c}}
				for _, in := range []api.Span{sp(a, b), sp(c, a)} {
					lines.Room(l, b, c, a, in)
					x := text{ask{b, c, in}, []int{a, b, c}, a}
					set(l, x, 0)
					set(l, x, a)
					all(l, x)
				}
			}
		}
	}
}
