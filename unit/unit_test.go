package unit_test

import (
	"math"
	"math/big"
	"slices"
	"testing"

	"gatefold/api"
	"gatefold/unit"
)

const (
	most  = api.Max
	least = -api.Max
)

// edges are numbers around all limits of the chapter, and those that are no lengths.
func edges() []int {
	return []int{
		math.MinInt, math.MinInt + 1, -1 << 62, -1 << 41, least - 1, least, least + 1,
		-1 << 33, -1<<20 - 1, -1 << 20, -130, -65, -64, -63, -3, -2, -1,
		0, 1, 2, 3, 10, 63, 64, 65, 130, 1 << 20, 1<<20 + 1, 1<<30 + 7, 1 << 33,
		most - 64, most - 1, most, most + 1, 1 << 41, 1 << 62, math.MaxInt - 1, math.MaxInt,
	}
}

// clamped is the length nearest to n, reckoned with no limit of bits.
func clamped(n *big.Int) *big.Int {
	if n.Cmp(big.NewInt(most)) > 0 {
		return big.NewInt(most)
	}
	if n.Cmp(big.NewInt(least)) < 0 {
		return big.NewInt(least)
	}
	return n
}

func length(n int) *big.Int { return clamped(big.NewInt(int64(n))) }

func number(n *big.Int) int { return int(n.Int64()) }

// TestClamp: P1.1.
func TestClamp(t *testing.T) {
	for _, x := range [][2]int{
		{0, 0}, {1, 1}, {-1, -1}, {64, 64}, {-1000, -1000},
		{most - 1, most - 1}, {most, most}, {most + 1, most}, {1 << 41, most}, {math.MaxInt, most},
		{least + 1, least + 1}, {least, least}, {least - 1, least}, {-1 << 41, least}, {math.MinInt, least},
	} {
		if n := unit.Clamp(x[0]); n != x[1] {
			t.Errorf("Clamp(%d): %d, not %d", x[0], n, x[1])
		}
	}
}

// TestMay: P1.1.
func TestMay(t *testing.T) {
	for _, n := range []int{1, 2, 64, 1 << 20, most - 1, most} {
		if !unit.May(n) {
			t.Errorf("May(%d): false", n)
		}
	}
	for _, n := range []int{0, -1, -64, least, least - 1, math.MinInt, most + 1, 1 << 41, math.MaxInt} {
		if unit.May(n) {
			t.Errorf("May(%d): true", n)
		}
	}
}

// TestAdd: P1.2.
func TestAdd(t *testing.T) {
	for _, x := range []struct {
		l    []int
		want int
	}{
		{nil, 0}, {[]int{}, 0}, {[]int{0}, 0}, {[]int{5}, 5}, {[]int{-5}, -5},
		{[]int{1, 2, 3}, 6}, {[]int{10, -3, -20}, -13},
		{[]int{most}, most}, {[]int{least}, least}, {[]int{most, least}, 0},
		{[]int{most + 1}, most}, {[]int{least - 1}, least}, {[]int{math.MaxInt}, most}, {[]int{math.MinInt}, least},
		// Clamped behind each number, not at the end alone.
		{[]int{most, 1, -1}, most - 1}, {[]int{1, most, -1}, most - 1}, {[]int{most, -1, 1}, most},
		{[]int{least, -1, 1}, least + 1}, {[]int{-1, least, 1}, least + 1},
		{[]int{most, most, least, least}, least},
		// Clamped ahead of each number.
		{[]int{1 << 41, -1}, most - 1}, {[]int{-1, 1 << 41}, most - 1},
		{[]int{-1 << 41, 1}, least + 1}, {[]int{1, -1 << 41}, least + 1},
		{[]int{-7, math.MaxInt}, most - 7}, {[]int{7, math.MinInt}, least + 7},
		// What would wrap round.
		{[]int{math.MaxInt, math.MaxInt}, most}, {[]int{math.MinInt, math.MinInt}, least},
		{[]int{1 << 62, 1 << 62, 5, -6}, most - 6},
	} {
		if n := unit.Add(x.l...); n != x.want {
			t.Errorf("Add(%v): %d, not %d", x.l, n, x.want)
		}
	}
}

// TestAddLong: P1.2, of long rows.
func TestAddLong(t *testing.T) {
	l := slices.Repeat([]int{most}, 1000)
	if n := unit.Add(l...); n != most {
		t.Errorf("Add of a thousand greatest ones: %d", n)
	}
	ones := slices.Repeat([]int{1}, 1000)
	if n := unit.Add(ones...); n != 1000 {
		t.Errorf("Add of a thousand ones: %d", n)
	}
}

// TestAddOfThree: P1.2, of all rows of three edges.
func TestAddOfThree(t *testing.T) {
	for _, a := range edges() {
		for _, b := range edges() {
			two := clamped(new(big.Int).Add(length(a), length(b)))
			for _, c := range edges() {
				want := number(clamped(new(big.Int).Add(two, length(c))))
				if n := unit.Add(a, b, c); n != want {
					t.Fatalf("Add(%d, %d, %d): %d, not %d", a, b, c, n, want)
				}
			}
		}
	}
}

// TestSub: P1.2.
func TestSub(t *testing.T) {
	for _, x := range [][3]int{
		{0, 0, 0}, {5, 3, 2}, {3, 5, -2}, {-3, -5, 2}, {0, 7, -7},
		{most, most, 0}, {least, least, 0}, {least, 1, least}, {most, -1, most},
		{most, 1, most - 1}, {least, -1, least + 1}, {most, least, most}, {least, most, least},
		{0, most, least}, {0, least, most}, {-1, least, most - 1},
		{1 << 41, 1, most - 1}, {-1 << 41, -1, least + 1}, {1, 1 << 41, 1 - most}, {-1, -1 << 41, most - 1},
		{math.MaxInt, math.MinInt, most}, {math.MinInt, math.MaxInt, least},
		{math.MinInt, math.MinInt, 0}, {math.MaxInt, math.MaxInt, 0}, {0, math.MinInt, most},
	} {
		if n := unit.Sub(x[0], x[1]); n != x[2] {
			t.Errorf("Sub(%d, %d): %d, not %d", x[0], x[1], n, x[2])
		}
	}
	for _, a := range edges() {
		for _, b := range edges() {
			want := number(clamped(new(big.Int).Sub(length(a), length(b))))
			if n := unit.Sub(a, b); n != want {
				t.Errorf("Sub(%d, %d): %d, not %d", a, b, n, want)
			}
		}
	}
}

// TestMul: P1.2.
func TestMul(t *testing.T) {
	for _, x := range [][3]int{
		{0, 0, 0}, {0, 5, 0}, {5, 0, 0}, {6, 7, 42}, {-6, 7, -42}, {6, -7, -42}, {-6, -7, 42},
		{most, 1, most}, {1, most, most}, {most, -1, least}, {least, -1, most}, {least, 1, least}, {most, 0, 0},
		{1 << 20, 1 << 20, most}, {1<<20 + 1, 1 << 20, most}, {1 << 20, 1<<20 - 1, most - 1<<20},
		{-1 << 20, 1 << 20, least}, {-1<<20 - 1, 1 << 20, least}, {-1 << 20, -1 << 20, most},
		{1 << 30, 1 << 30, most}, {1 << 32, 1 << 32, most}, {1 << 32, -1 << 32, least},
		{most, most, most}, {least, least, most}, {most, least, least},
		{1 << 41, 1, most}, {-1, 1 << 62, least}, {1 << 62, 0, 0},
		{math.MaxInt, math.MaxInt, most}, {math.MinInt, math.MinInt, most}, {math.MinInt, -1, most}, {math.MinInt, 1, least},
	} {
		if n := unit.Mul(x[0], x[1]); n != x[2] {
			t.Errorf("Mul(%d, %d): %d, not %d", x[0], x[1], n, x[2])
		}
	}
	for _, a := range edges() {
		for _, b := range edges() {
			want := number(clamped(new(big.Int).Mul(length(a), length(b))))
			if n := unit.Mul(a, b); n != want {
				t.Errorf("Mul(%d, %d): %d, not %d", a, b, n, want)
			}
		}
	}
}

// TestParts: P1.3.
func TestParts(t *testing.T) {
	for _, x := range [][3]int{
		{0, 1, 0}, {0, 3, 0}, {0, most, 0}, {1, 3, 1}, {2, 3, 1}, {3, 3, 1}, {4, 3, 2}, {9, 3, 3}, {10, 3, 4},
		{1, 1, 1}, {1, most, 1}, {most, most, 1}, {most, 1, most}, {most, most - 1, 2}, {most - 1, most, 1}, {most, 3, 366503875926},
		{1 << 41, 1, most}, {1 << 41, 1 << 41, 1}, {most + 1, most, 1}, {1 << 62, most, 1}, {3, 1 << 62, 1},
		{math.MaxInt, 1, most}, {math.MaxInt, math.MaxInt, 1}, {1, math.MaxInt, 1}, {math.MaxInt, 2, most / 2},
	} {
		if n, ok := unit.Parts(x[0], x[1]); n != x[2] || !ok {
			t.Errorf("Parts(%d, %d): %d, %v, not %d", x[0], x[1], n, ok, x[2])
		}
	}
}

// TestPartsOfNone: P1.3, where the answer is false.
func TestPartsOfNone(t *testing.T) {
	for _, x := range [][2]int{
		{-1, 3}, {-3, 3}, {least, 1}, {math.MinInt, 1}, {-1, math.MaxInt},
		{3, 0}, {0, 0}, {3, -1}, {0, -2}, {most, least}, {3, math.MinInt}, {math.MaxInt, 0},
		{-1, 0}, {-6, -3}, {math.MinInt, math.MinInt},
	} {
		if n, ok := unit.Parts(x[0], x[1]); n != 0 || ok {
			t.Errorf("Parts(%d, %d): %d, %v", x[0], x[1], n, ok)
		}
	}
}

// TestPartsReach: P1.8.
func TestPartsReach(t *testing.T) {
	reach := func(a, b int) {
		n, ok := unit.Parts(a, b)
		if ok != (a >= 0 && b >= 1) {
			t.Errorf("Parts(%d, %d): %v", a, b, ok)
		}
		if !ok {
			return
		}
		sum := new(big.Int).Mul(big.NewInt(int64(n)), length(b))
		if sum.Cmp(length(a)) < 0 {
			t.Errorf("Parts(%d, %d): %d don't reach", a, b, n)
		}
		if less := sum.Sub(sum, length(b)); less.Cmp(length(a)) >= 0 {
			t.Errorf("Parts(%d, %d): one less than %d reach", a, b, n)
		}
	}
	for _, a := range edges() {
		for _, b := range edges() {
			reach(a, b)
		}
	}
	for a := range 200 {
		for b := range 70 {
			reach(a, b)
		}
	}
}

// TestLeastGreatest: P1.4.
func TestLeastGreatest(t *testing.T) {
	for _, x := range []struct {
		l               []int
		least, greatest int
	}{
		{nil, 0, 0}, {[]int{}, 0, 0}, {[]int{0}, 0, 0}, {[]int{7}, 7, 7}, {[]int{-7}, -7, -7},
		{[]int{3, 1, 2}, 1, 3}, {[]int{1, 2, 3}, 1, 3}, {[]int{3, 2, 1}, 1, 3}, {[]int{2, 3, 1, 3, 1}, 1, 3},
		{[]int{5, 5}, 5, 5}, {[]int{4, 9}, 4, 9}, {[]int{-3, -1}, -3, -1}, {[]int{-1, -3, -2}, -3, -1}, {[]int{0, -4, 6}, -4, 6},
		{[]int{most, least}, least, most}, {[]int{least, most}, least, most}, {[]int{most, most - 1}, most - 1, most},
		{[]int{most + 1}, most, most}, {[]int{least - 1}, least, least},
		{[]int{1 << 60, 1 << 61}, most, most}, {[]int{-1 << 60, -1 << 61}, least, least},
		{[]int{math.MaxInt, 4}, 4, most}, {[]int{math.MinInt, 4}, least, 4},
		{[]int{math.MaxInt, math.MinInt}, least, most}, {[]int{math.MinInt, math.MaxInt, 0}, least, most},
	} {
		if n := unit.Least(x.l...); n != x.least {
			t.Errorf("Least(%v): %d, not %d", x.l, n, x.least)
		}
		if n := unit.Greatest(x.l...); n != x.greatest {
			t.Errorf("Greatest(%v): %d, not %d", x.l, n, x.greatest)
		}
	}
}

// TestLeastGreatestOfThree: P1.4, of all rows of three edges, in all orders.
func TestLeastGreatestOfThree(t *testing.T) {
	for _, a := range edges() {
		for _, b := range edges() {
			for _, c := range edges() {
				low, high := number(length(min(a, b, c))), number(length(max(a, b, c)))
				if n := unit.Least(a, b, c); n != low {
					t.Fatalf("Least(%d, %d, %d): %d, not %d", a, b, c, n, low)
				}
				if n := unit.Greatest(a, b, c); n != high {
					t.Fatalf("Greatest(%d, %d, %d): %d, not %d", a, b, c, n, high)
				}
			}
		}
	}
}

// TestPixels: P1.5.
func TestPixels(t *testing.T) {
	for _, x := range [][3]int{
		{0, 0, 0}, {1, 0, 1}, {63, 0, 63}, {64, 1, 0}, {65, 1, 1}, {130, 2, 2}, {6400, 100, 0},
		{-1, -1, 63}, {-63, -1, 1}, {-64, -1, 0}, {-65, -2, 63}, {-128, -2, 0}, {-129, -3, 63},
		{most, 1 << 34, 0}, {most - 1, 1<<34 - 1, 63}, {least, -1 << 34, 0}, {least + 1, -1 << 34, 1},
		{most + 1, 1 << 34, 0}, {most + 65, 1 << 34, 0}, {least - 1, -1 << 34, 0}, {least - 65, -1 << 34, 0},
		{math.MaxInt, 1 << 34, 0}, {math.MinInt, -1 << 34, 0},
	} {
		if whole, rest := unit.Pixels(x[0]); whole != x[1] || rest != x[2] {
			t.Errorf("Pixels(%d): %d and %d, not %d and %d", x[0], whole, rest, x[1], x[2])
		}
	}
}

// TestPixelsMakeTheLength: P1.5, of all edges and their neighbours.
func TestPixelsMakeTheLength(t *testing.T) {
	check := func(n int) {
		whole, rest := unit.Pixels(n)
		if rest < 0 || rest >= api.Pixel || whole*api.Pixel+rest != number(length(n)) {
			t.Errorf("Pixels(%d): %d and %d", n, whole, rest)
		}
	}
	for _, n := range edges() {
		check(n)
	}
	for n := -1000; n <= 1000; n++ {
		check(n)
	}
}

// TestWithin: P1.6.
func TestWithin(t *testing.T) {
	in := func(what string, a, b, n int) {
		if n < least || n > most {
			t.Errorf("%s of %d and %d: %d", what, a, b, n)
		}
	}
	for _, a := range edges() {
		in("Clamp", a, 0, unit.Clamp(a))
		whole, rest := unit.Pixels(a)
		in("Pixels", a, 0, whole)
		in("Pixels' rest", a, 0, rest)
		for _, b := range edges() {
			in("Add", a, b, unit.Add(a, b))
			in("Sub", a, b, unit.Sub(a, b))
			in("Mul", a, b, unit.Mul(a, b))
			in("Least", a, b, unit.Least(a, b))
			in("Greatest", a, b, unit.Greatest(a, b))
			n, _ := unit.Parts(a, b)
			in("Parts", a, b, n)
		}
	}
}

// TestOrder: P1.7, that sums of two don't hang on their order, and of a greater number are no less.
func TestOrder(t *testing.T) {
	l := edges()
	slices.Sort(l)
	for i, a := range l {
		for _, b := range l {
			if unit.Add(a, b) != unit.Add(b, a) {
				t.Errorf("Add(%d, %d) hangs on the order", a, b)
			}
			for _, more := range l[i:] {
				if unit.Add(a, b) > unit.Add(more, b) || unit.Add(b, a) > unit.Add(b, more) {
					t.Errorf("Add of %d and %d is less for %d", a, b, more)
				}
				if unit.Add(b, a, b) > unit.Add(b, more, b) {
					t.Errorf("Add of %d between %d is less for %d", a, b, more)
				}
			}
		}
	}
}

// TestAsUsual: P1.7, that what stays within the limits is reckoned as usual.
func TestAsUsual(t *testing.T) {
	for a := -70; a <= 70; a++ {
		for b := -70; b <= 70; b++ {
			if unit.Add(a, b) != a+b || unit.Add(a, b, a) != a+b+a {
				t.Errorf("Add(%d, %d)", a, b)
			}
			if unit.Sub(a, b) != a-b {
				t.Errorf("Sub(%d, %d)", a, b)
			}
			if unit.Mul(a, b) != a*b {
				t.Errorf("Mul(%d, %d)", a, b)
			}
		}
	}
	for _, x := range [][3]int{{most - 5, 5, most}, {most, -5, most - 5}, {least + 5, -5, least}, {least, 5, least + 5}, {most, least, 0}} {
		if n := unit.Add(x[0], x[1]); n != x[2] {
			t.Errorf("Add(%d, %d): %d", x[0], x[1], n)
		}
		if n := unit.Sub(x[2], x[1]); n != x[0] {
			t.Errorf("Sub(%d, %d): %d", x[2], x[1], n)
		}
	}
}

// TestRowsAreLeft: R3, that rows are neither changed nor kept, nor the room behind their ends used.
func TestRowsAreLeft(t *testing.T) {
	for name, call := range map[string]func(...int) int{"Add": unit.Add, "Least": unit.Least, "Greatest": unit.Greatest} {
		whole := []int{3, math.MaxInt, math.MinInt, -2, 1 << 41, 9, 8, 7}
		was := slices.Clone(whole)
		one := call(whole[:5]...)
		if !slices.Equal(whole, was) {
			t.Errorf("%s changes its row: %v", name, whole)
		}
		for i := range whole {
			whole[i] = 5
		}
		call(whole...)
		if two := call(was[:5]...); one != two {
			t.Errorf("%s answers %d, then %d", name, one, two)
		}
	}
}
