package words_test

import (
	"math"
	"slices"
	"testing"

	"gatefold/api"
	"gatefold/words"
)

// TestExamples: P9.1, P9.2 and P9.3, the chapter's examples.
func TestExamples(t *testing.T) {
	l := []int{30, 20, 10, 40}
	if a, b := words.Wide(l, 5, 0, 2), words.Wide(l, 5, 3, 3); a != 55 || b != 0 {
		t.Errorf("Wide: %d, %d", a, b)
	}
	for _, c := range []struct {
		width, from int
		want        api.Run
	}{
		{55, 0, api.Run{From: 0, To: 2, W: 55}},
		{54, 0, api.Run{From: 0, To: 1, W: 30}},
		{5, 3, api.Run{From: 3, To: 4, W: 40}},
	} {
		if r := words.Take(l, 5, c.width, c.from); r != c.want {
			t.Errorf("Take, width %d, from %d: %v, not %v", c.width, c.from, r, c.want)
		}
	}
	if all := words.All(l, 5, 70); !slices.Equal(all, []api.Run{{From: 0, To: 3, W: 70}, {From: 3, To: 4, W: 40}}) {
		t.Errorf("All, width 70: %v", all)
	}
	each := []api.Run{{From: 0, To: 1, W: 30}, {From: 1, To: 2, W: 20}, {From: 2, To: 3, W: 10}, {From: 3, To: 4, W: 40}}
	if all := words.All(l, 5, 1); !slices.Equal(all, each) {
		t.Errorf("All, width 1: %v", all)
	}
}

// TestWide: P9.1, of all short rows of words, between all places.
func TestWide(t *testing.T) {
	rows(4, []int{0, 1, 7, most}, func(l []int) {
		for _, space := range []int{0, 1, 3, most} {
			for from := -2; from < len(l)+3; from++ {
				for to := -2; to < len(l)+3; to++ {
					got, want := words.Wide(l, space, from, to), wide(l, space, from, to)
					if !want.IsInt64() || int64(got) != want.Int64() {
						t.Fatalf("Wide(%v, %d, %d, %d): %d, not %v", l, space, from, to, got, want)
					}
				}
			}
		}
	})
}

// TestWideNone: P9.1: what is no run is 0 wide, however far off its places are.
func TestWideNone(t *testing.T) {
	l := []int{30, 20, 10, 40}
	for _, from := range odds() {
		for _, to := range odds() {
			is := 0 <= from && from < to && to <= 4
			if n := words.Wide(l, 5, from, to); is != (n > 0) {
				t.Errorf("from %d to %d: %d", from, to, n)
			}
			if n := words.Wide(nil, 5, from, to); n != 0 {
				t.Errorf("no words, from %d to %d: %d", from, to, n)
			}
		}
	}
}

// TestTake: P9.2, of all short rows of words, from all places, on widths around all that their runs have.
func TestTake(t *testing.T) {
	rows(5, []int{0, 1, 2, 4}, func(l []int) {
		for _, space := range []int{0, 1, 3} {
			for width := range 18 {
				for from := -1; from < len(l)+2; from++ {
					if r, want := words.Take(l, space, width, from), line(l, space, width, from); r != want {
						t.Fatalf("Take(%v, %d, %d, %d): %v, not %v", l, space, width, from, r, want)
					}
				}
			}
		}
	})
}

// TestTakeNone: P9.2: from what is no word's place on there is no line.
func TestTakeNone(t *testing.T) {
	for _, l := range [][]int{nil, {}, {3}, {30, 20, 10, 40}} {
		for _, from := range odds() {
			r := words.Take(l, 5, 1000, from)
			if from < 0 || from >= len(l) {
				if r != (api.Run{}) {
					t.Errorf("%v, from %d: %v", l, from, r)
				}
				continue
			}
			if r.From != from || r.To != len(l) {
				t.Errorf("%v, from %d: %v", l, from, r)
			}
		}
	}
}

// TestTakeEdges: P9.2, where words just have room, or just not.
func TestTakeEdges(t *testing.T) {
	for _, c := range []struct {
		l                  []int
		space, width, from int
		want               api.Run
	}{
		// What is as wide as the line has room.
		{[]int{10, 20}, 5, 35, 0, api.Run{From: 0, To: 2, W: 35}},
		{[]int{10, 20}, 5, 34, 0, api.Run{From: 0, To: 1, W: 10}},
		// No space stands behind the last word, nor ahead of the first.
		{[]int{10, 20, 30}, 5, 10, 0, api.Run{From: 0, To: 1, W: 10}},
		{[]int{10, 20, 30}, 5, 55, 1, api.Run{From: 1, To: 3, W: 55}},
		// The first word stands there, however wide it is; a narrow one behind it doesn't.
		{[]int{10, 0, 0}, 0, 9, 0, api.Run{From: 0, To: 1, W: 10}},
		{[]int{10, 0, 0}, 0, 10, 0, api.Run{From: 0, To: 3, W: 10}},
		{[]int{10, 0, 0}, 1, 11, 0, api.Run{From: 0, To: 2, W: 11}},
		// What makes the line too wide ends it, even if words behind it had room.
		{[]int{10, 30, 1, 1}, 1, 20, 0, api.Run{From: 0, To: 1, W: 10}},
		// Words may have no width, and the line, too.
		{[]int{0, 0, 0}, 0, 0, 0, api.Run{From: 0, To: 3, W: 0}},
		{[]int{0, 0, 0}, 1, 0, 1, api.Run{From: 1, To: 2, W: 0}},
		{[]int{0, 0, 1, 0}, 0, 0, 0, api.Run{From: 0, To: 2, W: 0}},
		// The greatest that the chapter speaks of.
		{[]int{most, most}, most, most, 0, api.Run{From: 0, To: 1, W: most}},
		{[]int{most, 0, 0}, 0, most, 0, api.Run{From: 0, To: 3, W: most}},
		{[]int{most - 2, 1}, 1, most, 0, api.Run{From: 0, To: 2, W: most}},
		{[]int{most - 2, 1}, 1, most - 1, 0, api.Run{From: 0, To: 1, W: most - 2}},
	} {
		if r := words.Take(c.l, c.space, c.width, c.from); r != c.want {
			t.Errorf("Take(%v, %d, %d, %d): %v, not %v", c.l, c.space, c.width, c.from, r, c.want)
		}
	}
}

// TestAll: P9.3, of all short rows of words.
func TestAll(t *testing.T) {
	rows(6, []int{0, 1, 3, 8}, func(l []int) {
		for _, space := range []int{0, 1, 2} {
			for _, width := range []int{0, 1, 2, 3, 4, 7, 8, 9, 11, 30} {
				if all, want := words.All(l, space, width), lines(l, space, width); !slices.Equal(all, want) {
					t.Fatalf("All(%v, %d, %d): %v, not %v", l, space, width, all, want)
				}
			}
		}
	})
}

// TestAllNone: P9.3: no words have no lines.
func TestAllNone(t *testing.T) {
	for _, l := range [][]int{nil, {}} {
		for _, n := range odds() {
			if all := words.All(l, n, n); len(all) > 0 {
				t.Errorf("%d: %v", n, all)
			}
		}
	}
}

// TestStays: P9.4 and R3: neither words nor the room behind them change.
func TestStays(t *testing.T) {
	whole := []int{30, 20, 10, 40, 7, 7, 7}
	l := whole[:4]
	was := slices.Clone(whole)
	for _, width := range []int{-1, 0, 1, 55, 70, 200} {
		words.All(l, 5, width)
		for at := -1; at < 6; at++ {
			words.Take(l, 5, width, at)
			words.Wide(l, 5, 0, at)
			if !slices.Equal(whole, was) {
				t.Fatalf("width %d: %v", width, whole)
			}
		}
	}
	if words.Wide(l, 5, 0, 5) != 0 || words.Take(l, 5, 500, 0).To != 4 || words.Take(l, 5, 500, 4) != (api.Run{}) {
		t.Error("words are told that stand behind the end")
	}
}

// TestNew: P9.4: what is answered is the caller's.
func TestNew(t *testing.T) {
	l := []int{30, 20, 10, 40}
	want := []api.Run{{From: 0, To: 2, W: 55}, {From: 2, To: 4, W: 55}}
	a, b := words.All(l, 5, 60), words.All(l, 5, 60)
	clear(a[:cap(a)])
	if !slices.Equal(b, want) {
		t.Errorf("an answer changed with another one: %v", b)
	}
	if c := words.All(l, 5, 60); !slices.Equal(c, want) {
		t.Errorf("an answer is other than the one ahead: %v", c)
	}
	clear(l)
	if !slices.Equal(b, want) {
		t.Errorf("an answer changed with the words: %v", b)
	}
}

// TestSame: R5: what was asked ahead doesn't show.
func TestSame(t *testing.T) {
	l := []int{30, 20, 10, 40}
	want := words.All(l, 5, 70)
	for _, n := range odds() {
		words.All([]int{n, 1, n}, n, n)
		words.Take(l, n, n, n)
		words.Wide(l, n, n, n)
		if all := words.All(l, 5, 70); !slices.Equal(all, want) {
			t.Fatalf("behind %d: %v", n, all)
		}
	}
}

// TestParted: P9.5, told of the answers alone.
func TestParted(t *testing.T) {
	rows(6, []int{0, 1, 3, 8}, func(l []int) {
		for _, space := range []int{0, 1, 2} {
			for _, width := range []int{0, 1, 3, 4, 7, 8, 12} {
				parted(t, l, space, width)
			}
		}
	})
}

// parted holds the lines of l against P9.5.
func parted(t *testing.T, l []int, space, width int) {
	t.Helper()
	at := 0
	for _, r := range words.All(l, space, width) {
		if r.From != at || r.To <= at || r.To > len(l) {
			t.Fatalf("All(%v, %d, %d): %v, but from %d on", l, space, width, r, at)
		}
		at = r.To
		if r.W != words.Wide(l, space, r.From, r.To) {
			t.Fatalf("All(%v, %d, %d): %v", l, space, width, r)
		}
		alone := r.To-r.From == 1 && l[r.From] > width
		if (r.W > width) != alone {
			t.Fatalf("All(%v, %d, %d): %v", l, space, width, r)
		}
	}
	if at != len(l) {
		t.Fatalf("All(%v, %d, %d): up to %d", l, space, width, at)
	}
}

// TestGreedy: P9.6, against all ways to part short rows of words.
func TestGreedy(t *testing.T) {
	rows(6, []int{0, 2, 5}, func(l []int) {
		for _, space := range []int{0, 1, 3} {
			for _, width := range []int{0, 1, 2, 4, 5, 6, 8, 12} {
				greedy(t, l, space, width)
			}
		}
	})
}

// greedy holds the lines of l against P9.6.
func greedy(t *testing.T, l []int, space, width int) {
	t.Helper()
	all := words.All(l, space, width)
	if few := fewest(l, space, width, 0); len(all) != few {
		t.Fatalf("All(%v, %d, %d): %v, but %d lines do", l, space, width, all, few)
	}
	for _, r := range all {
		if r.To < len(l) && words.Wide(l, space, r.From, r.To+1) <= width {
			t.Fatalf("All(%v, %d, %d): %v has room for one more", l, space, width, r)
		}
	}
}

// TestMost: P9.1 to P9.3 and R6, of as many words as the chapter speaks of, as wide as may be.
func TestMost(t *testing.T) {
	l := slices.Repeat([]int{most}, many)
	want := most * (2*many - 1)
	if n := words.Wide(l, most, 0, many); n != want {
		t.Errorf("Wide: %d, not %d", n, want)
	}
	if n := words.Wide(l, most, many-1, many); n != most {
		t.Errorf("Wide of the last one: %d", n)
	}
	if r := words.Take(l, most, most, 0); r != (api.Run{From: 0, To: 1, W: most}) {
		t.Errorf("Take: %v", r)
	}
	all := words.All(l, most, most)
	if len(all) != many || all[many-1] != (api.Run{From: many - 1, To: many, W: most}) {
		t.Errorf("All: %d", len(all))
	}
}

// TestMany: P9.2 and P9.3, of as many words as the chapter speaks of, in lines of many.
func TestMany(t *testing.T) {
	l := slices.Repeat([]int{1}, many)
	if r := words.Take(l, 1, most, 0); r != (api.Run{From: 0, To: many, W: 2*many - 1}) {
		t.Errorf("Take: %v", r)
	}
	if r := words.Take(make([]int, many), 0, 0, 1); r != (api.Run{From: 1, To: many, W: 0}) {
		t.Errorf("Take of words of no width: %v", r)
	}
	all := words.All(l, 1, 2*300-1)
	if len(all) != 334 || all[0] != (api.Run{From: 0, To: 300, W: 599}) || all[333] != (api.Run{From: 99_900, To: many, W: 199}) {
		t.Errorf("All: %d, the last one %v", len(all), all[len(all)-1])
	}
	parted(t, l, 1, 599)
}

// TestBeyond: R1: of words, spaces and widths that the chapter doesn't speak of calls come to an end.
func TestBeyond(t *testing.T) {
	beyond := []int{math.MinInt, -most, -1, 0, 1, most + 1, math.MaxInt}
	rows(3, beyond, func(l []int) {
		for _, space := range beyond {
			for _, width := range beyond {
				words.All(l, space, width)
				for at := -1; at < 5; at++ {
					words.Take(l, space, width, at)
					words.Wide(l, space, at, 3)
				}
			}
		}
	})
	long := slices.Repeat([]int{math.MaxInt}, 5*many)
	words.All(long, math.MaxInt, 0)
	words.Take(long, math.MinInt, math.MaxInt, 0)
	words.Wide(long, -1, 0, len(long))
}
