package tests

import (
	"math"
	"math/rand/v2"
	"slices"
	"testing"

	"loop.example/g01326/impl"
)

// examplePegs are the pegs of the example of chapter 4.
var examplePegs = impl.Pegs{Low: 200, Step: 20, Board: 10}

// tenths are pegs with all heights from 50 on by 10, and a board so thick that two shelves of 50 are as tall as one of 110.
var tenths = impl.Pegs{Low: 50, Step: 10, Board: 10}

// pegsInside are on the bounds of what is valid, pegsOutside one step behind them or far out.
func pegsInside() []impl.Pegs {
	return []impl.Pegs{examplePegs, tenths, {Low: 50, Step: 1, Board: 1}, {Low: 400, Step: 100, Board: 100}, {Low: 50, Step: 100, Board: 1}, {Low: 399, Step: 99, Board: 99}, {Low: 400, Step: 1, Board: 50}}
}

func pegsOutside() []impl.Pegs {
	list := []impl.Pegs{{}, {Low: -200, Step: -20, Board: -10}, {Low: 20, Step: 200, Board: 10}}
	for _, low := range []int16{0, 49, 401, -1, -200, math.MinInt16, math.MaxInt16} {
		list = append(list, impl.Pegs{Low: low, Step: 20, Board: 10})
	}
	for _, step := range []int16{0, 101, -1, -20, math.MinInt16, math.MaxInt16} {
		list = append(list, impl.Pegs{Low: 200, Step: step, Board: 10})
	}
	for _, board := range []int16{0, 101, -1, -10, math.MinInt16, math.MaxInt16} {
		list = append(list, impl.Pegs{Low: 200, Step: 20, Board: board})
	}
	return list
}

// heightsInside are valid for the pegs of the example, heightsOutside are not.
func heightsInside() [][]int64 {
	return [][]int64{{200}, {240}, {1000}, {200, 220, 240}, {980, 1000}, {200, 1000}, {200, 220, 240, 260, 280, 300}, {220, 300, 420, 600, 980, 1000}}
}

func heightsOutside() [][]int64 {
	list := [][]int64{nil, {}, {200, 220, 240, 260, 280, 300, 320}, {200, 220, 240, 260, 280, 300, 301}, {200, 200}, {220, 200}, {200, 240, 220}, {200, 220, 240, 240}, {240, 220, 260}}
	for _, high := range []int64{0, -1, 180, 199, 201, 210, 219, 221, 999, 1001, 1020, 1 << 16, 1<<16 + 200, 1<<32 + 220, -200, math.MinInt64, math.MaxInt64} {
		list = append(list, []int64{high}, []int64{200, high}, []int64{high, 1000}, []int64{200, high, 1000})
	}
	return list
}

// shelfNumbers returns valid numbers of shelves, most at most, for some heights.
func shelfNumbers(r *rand.Rand, heights []int64, most int) []int64 {
	shelves := make([]int64, len(heights))
	for i := range shelves {
		shelves[i] = int64(r.IntN(most + 1))
	}
	return shelves
}

// sized returns books of some widths and heights, one of each pair.
func sized(pairs ...[2]int16) []impl.Book {
	var list []impl.Book
	for _, pair := range pairs {
		list = append(list, size(pair[0], pair[1], 10))
	}
	return list
}

// highs returns books of some heights, all 1 wide.
func highs(heights ...int16) []impl.Book {
	var list []impl.Book
	for _, high := range heights {
		list = append(list, size(1, high, 10))
	}
	return list
}

// anyPegs returns pegs of which some have few heights, and some many.
func anyPegs(r *rand.Rand) impl.Pegs {
	return impl.Pegs{Low: pickOf[int16](r, 50, 60, 100, 110, 400), Step: pickOf[int16](r, 1, 5, 10, 10, 20, 50, 100), Board: pickOf[int16](r, 1, 10, 20, 100)}
}

// anyHighBooks returns books of few widths and of so many heights, often equally far apart, so that wastes are often equal.
func anyHighBooks(r *rand.Rand, count, heights int) []impl.Book {
	var list []impl.Book
	for range count {
		list = append(list, size(pickOf[int16](r, 1, 1, 1, 2, 3), 100+10*int16(r.IntN(heights)), 10))
	}
	return list
}

// slowHeights returns all heights of shelves on valid pegs, ascending: it tries all numbers.
func slowHeights(p impl.Pegs) []int64 {
	var heights []int64
	for high := range int64(1001) {
		if high >= int64(p.Low) && (high-int64(p.Low))%int64(p.Step) == 0 {
			heights = append(heights, high)
		}
	}
	return heights
}

// slowPeg returns the least height of a shelf that is at least high, or -1.
func slowPeg(p impl.Pegs, high int64) int64 {
	for _, shelf := range slowHeights(p) {
		if shelf >= high {
			return shelf
		}
	}
	return -1
}

// slowNeeded returns the heights that books need, each one once: those of all shelves for which a book asks.
func slowNeeded(p impl.Pegs, list []impl.Book) []int64 {
	asked := map[int64]bool{}
	for _, b := range list {
		asked[slowPeg(p, int64(b.High))] = true
	}
	return slices.DeleteFunc(slowHeights(p), func(high int64) bool { return !asked[high] })
}

// slowHome returns the index of the least one of the heights that are high enough for a book, or -1.
func slowHome(heights []int64, b impl.Book) int {
	home := -1
	for i, high := range heights {
		if high >= int64(b.High) && (home < 0 || high < heights[home]) {
			home = i
		}
	}
	return home
}

// slowGroups returns the books of each height; false if one is higher than all.
func slowGroups(heights []int64, list []impl.Book) ([][]int64, bool) {
	groups := make([][]int64, len(heights))
	for i, b := range list {
		home := slowHome(heights, b)
		if home < 0 {
			return nil, false
		}
		groups[home] = append(groups[home], int64(i))
	}
	return groups, true
}

// slowWaste returns the waste of books; false if one is higher than all heights.
func slowWaste(heights []int64, list []impl.Book) (int64, bool) {
	waste := int64(0)
	for _, b := range list {
		home := slowHome(heights, b)
		if home < 0 {
			return 0, false
		}
		waste += int64(b.Wide) * (heights[home] - int64(b.High))
	}
	return waste, true
}

// choicesOf returns all lists of count of some ascending numbers, ascending themselves.
func choicesOf(numbers []int64, count int) [][]int64 {
	if count == 0 {
		return [][]int64{nil}
	}
	var lists [][]int64
	for i, first := range numbers {
		for _, rest := range choicesOf(numbers[i+1:], count-1) {
			lists = append(lists, append([]int64{first}, rest...))
		}
	}
	return lists
}

// slowLeast returns the list of heights with the least waste, of several ones the first one, this waste, and how many lists have it.
func slowLeast(lists [][]int64, list []impl.Book) ([]int64, int64, int) {
	var best []int64
	least, several := int64(-1), 0
	for _, heights := range lists {
		waste, held := slowWaste(heights, list)
		switch {
		case !held:
		case least < 0 || waste < least:
			best, least, several = heights, waste, 1
		case waste == least:
			several++
			if slices.Compare(heights, best) < 0 {
				best = heights
			}
		}
	}
	return best, least, several
}

// slowShelves puts books on shelves by the document's words.
func slowShelves(heights []int64, list []impl.Book, wide int64) []int64 {
	shelves := make([]int64, len(heights))
	groups, _ := slowGroups(heights, list)
	for i, group := range groups {
		var filled []int64
	books:
		for _, book := range group {
			own := int64(list[book].Wide)
			for at := range filled {
				if filled[at]+own <= wide {
					filled[at] += own
					continue books
				}
			}
			filled = append(filled, own)
		}
		shelves[i] = int64(len(filled))
	}
	return shelves
}

// slowTall returns how tall a case is: it lays board on shelf on board.
func slowTall(p impl.Pegs, heights, shelves []int64) int64 {
	tall := int64(p.Board)
	for i, high := range heights {
		for range shelves[i] {
			tall += high + int64(p.Board)
		}
	}
	return tall
}

// fewestShelves returns by a search how few shelves of a width hold some widths in any order.
func fewestShelves(widths []int64, wide int64) int64 {
	var put func(at int, filled []int64) int64
	put = func(at int, filled []int64) int64 {
		if at == len(widths) {
			return int64(len(filled))
		}
		fewest := put(at+1, append(slices.Clone(filled), widths[at]))
		for i := range filled {
			if filled[i]+widths[at] <= wide {
				other := slices.Clone(filled)
				other[i] += widths[at]
				fewest = min(fewest, put(at+1, other))
			}
		}
		return fewest
	}
	return put(0, nil)
}

// wantHome checks that a book belongs to a height that is high enough, and to none that is lesser.
func wantHome(t *testing.T, heights []int64, home int64, b impl.Book) {
	t.Helper()
	if !slices.Contains(heights, home) || home < int64(b.High) {
		t.Errorf("%v belongs to %d of %v", b, home, heights)
	}
	for _, lesser := range heights {
		if lesser < home && lesser >= int64(b.High) {
			t.Errorf("%v belongs to %d, though %d of %v is lesser", b, home, lesser, heights)
		}
	}
}
