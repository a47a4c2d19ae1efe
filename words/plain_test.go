package words_test

import (
	"math"
	"math/big"

	"gatefold/api"
)

// What the chapter speaks of.
const (
	most = 1 << 45 // of widths, spaces and a line's width
	many = 100_000 // words
)

// wide is, by the chapter's words, the widths of the words from from on, up to to, and the spaces between, together, with no limit of bits.
func wide(l []int, space, from, to int) *big.Int {
	sum := new(big.Int)
	if from < 0 || from >= len(l) || to <= from || to > len(l) {
		return sum
	}
	for at, w := range l {
		if from <= at && at < to {
			sum.Add(sum, big.NewInt(int64(w)))
		}
	}
	between := new(big.Int).Mul(big.NewInt(int64(space)), big.NewInt(int64(to-from-1)))
	return sum.Add(sum, between)
}

// fits tells whether the run from from up to to is not wider than width.
func fits(l []int, space, width, from, to int) bool {
	return wide(l, space, from, to).Cmp(big.NewInt(int64(width))) <= 0
}

// run is the one from from up to to.
func run(l []int, space, from, to int) api.Run {
	return api.Run{From: from, To: to, W: int(wide(l, space, from, to).Int64())}
}

// line is, by the chapter's words, the line from the word at from on.
func line(l []int, space, width, from int) api.Run {
	if from < 0 || from >= len(l) {
		return api.Run{}
	}
	to := from + 1
	for to < len(l) && fits(l, space, width, from, to+1) {
		to++
	}
	return run(l, space, from, to)
}

// lines is, by the chapter's words, the lines of all words.
func lines(l []int, space, width int) []api.Run {
	var all []api.Run
	from := 0
	for from < len(l) {
		all = append(all, line(l, space, width, from))
		from = all[len(all)-1].To
	}
	return all
}

// fewest is how many lines the words from from on need at least, whichever way they are parted into lines that are not too wide, but those of one word.
func fewest(l []int, space, width, from int) int {
	if from == len(l) {
		return 0
	}
	least := math.MaxInt
	for to := from + 1; to <= len(l); to++ {
		if to == from+1 || fits(l, space, width, from, to) {
			least = min(least, 1+fewest(l, space, width, to))
		}
	}
	return least
}

// rows hands out all rows of up to long words with the widths w.
func rows(long int, w []int, yield func(l []int)) {
	made := make([]int, 0, long)
	var grow func()
	grow = func() {
		yield(made[:len(made):len(made)])
		if len(made) == long {
			return
		}
		for _, n := range w {
			made = append(made, n)
			grow()
			made = made[:len(made)-1]
		}
	}
	grow()
}

// odds are numbers around all bounds of the chapter, and of the machine.
func odds() []int {
	return []int{
		math.MinInt, math.MinInt + 1, -1 << 62, -most - 1, -most, -100, -2, -1,
		0, 1, 2, 3, 4, 5, 100, api.Max, most - 1, most, most + 1, 1 << 62, math.MaxInt - 1, math.MaxInt,
	}
}
