package tests

import (
	"math"
	"math/big"
	"math/rand/v2"
	"slices"
	"testing"

	"loop.example/g01326/impl"
)

// exampleCase is the text of the case of the example of chapter 2.
const exampleCase = "60 5000 250 250 250"

// readCase reads a case that has to be valid.
func readCase(t *testing.T, text string) impl.Case {
	t.Helper()
	c, code := impl.ReadCase(text)
	if code != impl.OK {
		t.Fatalf("ReadCase(%q): code %d", text, code)
	}
	return c
}

// size is a valid book of which only what counts on a shelf is chosen.
func size(wide, high, weight int16) impl.Book {
	return impl.Book{Class: 1, Mark: [3]byte{'a', 'b', 'c'}, Volume: 1, Wide: wide, High: high, Weight: weight}
}

// wides returns books of some widths, 100 high and of 10 grams.
func wides(widths ...int16) []impl.Book {
	var list []impl.Book
	for _, wide := range widths {
		list = append(list, size(wide, 100, 10))
	}
	return list
}

// casesInside are on the bounds of what is valid, casesOutside one step behind them or far out.
func casesInside() []impl.Case {
	return []impl.Case{
		{Wide: 60, Load: 5000, Heights: []int16{250, 250, 250}},
		{Wide: 1, Load: 1, Heights: []int16{50}},
		{Wide: 2000, Load: 200000, Heights: slices.Repeat([]int16{1000}, 12)},
		{Wide: 100, Load: 70000, Heights: []int16{1000, 50, 999, 51}},
	}
}

func casesOutside() []impl.Case {
	some := []int16{250, 300}
	list := []impl.Case{{}, {Wide: 60, Load: 5000}, {Wide: 60, Load: 5000, Heights: []int16{}},
		{Wide: 60, Load: 5000, Heights: slices.Repeat([]int16{250}, 13)}, {Wide: 60, Load: 5000, Heights: make([]int16, 13)}}
	for _, wide := range []int16{0, -1, -60, 2001, math.MinInt16, math.MaxInt16} {
		list = append(list, impl.Case{Wide: wide, Load: 5000, Heights: some})
	}
	for _, load := range []int32{0, -1, 200001, -5000, math.MinInt32, math.MaxInt32} {
		list = append(list, impl.Case{Wide: 60, Load: load, Heights: some})
	}
	for _, high := range []int16{0, 49, -50, 1001, math.MinInt16, math.MaxInt16} {
		for _, heights := range [][]int16{{high}, {high, 250}, {250, high}, {250, high, 250}} {
			list = append(list, impl.Case{Wide: 60, Load: 5000, Heights: heights})
		}
	}
	return list
}

// pickOf returns one of some values.
func pickOf[T any](r *rand.Rand, values ...T) T { return values[r.IntN(len(values))] }

// anyCase returns a valid case with so many shelves, whose bounds small books often reach exactly.
func anyCase(r *rand.Rand, shelves int) impl.Case {
	c := impl.Case{Wide: int16(pickOf(r, 3, 4, 6, 9, 20)), Load: int32(pickOf(r, 300, 400, 600, 5000))}
	for range shelves {
		c.Heights = append(c.Heights, pickOf[int16](r, 50, 60, 100, 100, 400))
	}
	return c
}

// smallBooks returns books of few widths, heights and weights.
func smallBooks(r *rand.Rand, count int) []impl.Book {
	var list []impl.Book
	for range count {
		b := size(pickOf[int16](r, 1, 1, 2, 3), pickOf[int16](r, 50, 50, 60, 100), pickOf[int16](r, 100, 100, 200, 300))
		b.Class = pickOf[int16](r, 1, 2, 3)
		list = append(list, b)
	}
	return list
}

// slowFits tells by the document's words whether books fit on a shelf.
func slowFits(c impl.Case, shelf int, books []impl.Book) bool {
	wide, weight := 0, 0
	for _, b := range books {
		wide += int(b.Wide)
		weight += int(b.Weight)
		if b.High > c.Heights[shelf] {
			return false
		}
	}
	return wide <= int(c.Wide) && weight <= int(c.Load)
}

// slowBad returns the first bad shelf of numbers, apart from the program, or -1 if they are a layout.
func slowBad(c impl.Case, list []impl.Book, ends []int64) int64 {
	for shelf := range c.Heights {
		if shelf >= len(ends) {
			return int64(shelf)
		}
		before := int64(0)
		if shelf > 0 {
			before = ends[shelf-1]
		}
		end := ends[shelf]
		if end < before || end > int64(len(list)) || !slowFits(c, shelf, list[before:end]) {
			return int64(shelf)
		}
	}
	if len(ends) > len(c.Heights) || ends[len(ends)-1] != int64(len(list)) {
		return int64(len(c.Heights))
	}
	return -1
}

// layouts returns all layouts, ascending as lists: it tries all lists of numbers.
func layouts(c impl.Case, list []impl.Book) [][]int64 {
	var found [][]int64
	var extend func(ends []int64)
	extend = func(ends []int64) {
		if len(ends) == len(c.Heights) {
			if slowBad(c, list, ends) < 0 {
				found = append(found, slices.Clone(ends))
			}
			return
		}
		least := int64(0)
		if len(ends) > 0 {
			least = ends[len(ends)-1]
		}
		for end := least; end <= int64(len(list)); end++ {
			extend(append(slices.Clone(ends), end))
		}
	}
	extend(nil)
	return found
}

// slowFree returns what is free on each shelf of a layout, and which shelves are used.
func slowFree(c impl.Case, list []impl.Book, ends []int64) ([]int64, []bool) {
	free, used := make([]int64, len(ends)), make([]bool, len(ends))
	at := int64(0)
	for shelf, end := range ends {
		free[shelf] = int64(c.Wide)
		for ; at < end; at++ {
			free[shelf] -= int64(list[at].Wide)
			used[shelf] = true
		}
	}
	return free, used
}

// slowCost returns the cost of a layout, slowUsed how many shelves it uses.
func slowCost(c impl.Case, list []impl.Book, ends []int64) int64 {
	cost := int64(0)
	free, used := slowFree(c, list, ends)
	for shelf := range ends {
		if used[shelf] {
			cost += free[shelf] * free[shelf]
		}
	}
	return cost
}

func slowUsed(c impl.Case, list []impl.Book, ends []int64) int64 {
	count := int64(0)
	_, used := slowFree(c, list, ends)
	for _, is := range used {
		if is {
			count++
		}
	}
	return count
}

// slowBest returns the last one of the layouts for which a number is least, and this number.
func slowBest(all [][]int64, number func(ends []int64) int64) ([]int64, int64, int64) {
	var best []int64
	least := int64(math.MaxInt64)
	for _, ends := range all {
		if n := number(ends); n <= least {
			best, least = ends, n
		}
	}
	if best == nil {
		return nil, 0, impl.ErrNotFound
	}
	return best, least, impl.OK
}

// slowProof tells by the document's words, and with numbers of any size, whether a table is a proof.
func slowProof(c impl.Case, list []impl.Book, table [][]int64) bool {
	shelves, books := len(c.Heights), len(list)
	if len(table) != shelves+1 {
		return false
	}
	for shelf, numbers := range table {
		if len(numbers) != books+1 {
			return false
		}
		for book, n := range numbers {
			right := n >= -1
			if shelf == shelves && book < books {
				right = n == -1
			}
			if shelf == shelves && book == books {
				right = n == 0
			}
			if !right {
				return false
			}
		}
	}
	for shelf := range shelves {
		for book := range books + 1 {
			for behind := book; behind <= books; behind++ {
				rest := table[shelf+1][behind]
				if !slowFits(c, shelf, list[book:behind]) || rest == -1 {
					continue
				}
				free := int64(0)
				if behind > book {
					free = int64(c.Wide)
				}
				for _, b := range list[book:behind] {
					free -= int64(b.Wide)
				}
				most := new(big.Int).Add(big.NewInt(rest), big.NewInt(free*free))
				if n := table[shelf][book]; n == -1 || big.NewInt(n).Cmp(most) > 0 {
					return false
				}
			}
		}
	}
	return true
}

// copyTable returns a table with new lists.
func copyTable(table [][]int64) [][]int64 {
	var out [][]int64
	for _, numbers := range table {
		out = append(out, slices.Clone(numbers))
	}
	return out
}
