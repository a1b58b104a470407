package tests

import (
	"fmt"
	"math/rand/v2"
	"slices"
	"testing"

	"loop.example/g01326/impl"
)

// wantFirst checks a move, which is the first one of all that there are; ErrNotFound if there is none.
func wantFirst(t *testing.T, name string, got []any, moves []impl.Move) {
	t.Helper()
	if len(moves) == 0 {
		wantResults(t, name, got, impl.Move{}, code(impl.ErrNotFound))
		return
	}
	wantResults(t, name, got, moves[0], code(impl.OK))
}

// wantPutRight checks all that is told of a shelf with the same stock as its catalogue.
func wantPutRight(t *testing.T, catalogue, shelf []impl.Book) {
	t.Helper()
	name := fmt.Sprint(shelf, " of ", catalogue)
	slips, swaps := slowSlips(catalogue, shelf), slowExchanges(catalogue, shelf)
	if slices.Equal(catalogue, shelf) {
		slips, swaps = nil, nil
	}
	wantFirst(t, "slip "+name, all(impl.OneSlip(catalogue, shelf)), slips)
	wantFirst(t, "swap "+name, all(impl.OneSwap(catalogue, shelf)), swaps)
	wantResults(t, "right "+name, all(impl.RightPlaces(catalogue, shelf)), slowRight(catalogue, shelf), code(impl.OK))
	least, _ := impl.LeastMoves(shelf)
	wantResults(t, "slips "+name, all(impl.FewestSlips(catalogue, shelf)), least, code(impl.OK))
}

func TestSlipsAndSwaps(t *testing.T) {
	const none = "none"
	type asked struct{ catalogue, shelf, slip, swap string }
	for _, a := range []asked{
		// Right already, also with books that could be moved or exchanged without a trace.
		{"", "", none, none}, {"a", "a", none, none}, {"abcd", "abcd", none, none}, {"aab", "aab", none, none}, {"aA", "aA", none, none}, {"aaaa", "aaaa", none, none},
		// One slip only.
		{"abc", "bca", "2>0", none}, {"abc", "cab", "0>2", none}, {"abcd", "bcad", "2>0", none}, {"abcd", "dabc", "0>3", none}, {"abcde", "acdbe", "3>1", none}, {"abcde", "adbce", "1>3", none},
		// One swap only.
		{"abcd", "dbca", none, "0>3"}, {"abc", "cba", none, "0>2"}, {"abcde", "adcbe", none, "1>3"}, {"abcde", "ebcda", none, "0>4"},
		// Both: of the two slips the first one.
		{"ab", "ba", "0>1", "0>1"}, {"abcd", "bacd", "0>1", "0>1"}, {"abcd", "abdc", "2>3", "2>3"}, {"aA", "Aa", "0>1", "0>1"}, {"Aab", "aAb", "0>1", "0>1"},
		// None.
		{"abcd", "badc", none, none}, {"abcd", "dcba", none, none}, {"abcd", "cdab", none, none}, {"abc", "abc", none, none}, {"abcdef", "bcafed", none, none}, {"aAbB", "AaBb", none, none},
		// Equal books: several slips, by From, or by To.
		{"aab", "aba", "1>2", "1>2"}, {"abb", "bab", "0>1", "0>1"}, {"aab", "baa", "0>2", "0>2"}, {"abb", "bba", "2>0", "0>2"}, {"aabb", "abba", "3>0", "1>3"}, {"aabb", "baab", "0>2", "0>2"}, {"aabb", "bbaa", none, none},
		{"aaab", "abaa", "1>3", "1>3"}, {"aabc", "abac", "1>2", "1>2"}, {"aabbc", "abbac", "3>0", "1>3"}, {"abbbc", "bbabc", "2>0", "0>2"}, {"aabbb", "abbab", "3>0", "1>3"},
		// Books that are equal by the usual order only are not in their places.
		{"aAb", "Aab", "0>1", "0>1"}, {"aAa", "aaA", "0>2", "1>2"}, {"aAa", "Aaa", "0>1", "0>1"}, {"aAAa", "AAaa", "2>0", "0>2"}, {"abB", "Bab", "0>2", none}, {"abB", "aBb", "1>2", "1>2"}, {"abB", "Bba", none, "0>2"},
	} {
		name := a.shelf + " of " + a.catalogue
		catalogue, shelf := books(a.catalogue), books(a.shelf)
		for _, found := range []struct {
			name, want string
			run        func(catalogue, shelf []impl.Book) (impl.Move, int64)
		}{{"slip ", a.slip, impl.OneSlip}, {"swap ", a.swap, impl.OneSwap}} {
			m, cd := found.run(catalogue, shelf)
			if found.want == none {
				wantResults(t, found.name+name, all(m, cd), impl.Move{}, code(impl.ErrNotFound))
				continue
			}
			wantResults(t, found.name+name, all(impl.MovesText([]impl.Move{m}), cd), found.want, code(impl.OK))
		}
		wantPutRight(t, catalogue, shelf)
	}
}

// TestAllSlips compares all short shelves with a search of all moves and exchanges.
func TestAllSlips(t *testing.T) {
	for _, short := range [][][]impl.Book{lists("aAb", 4), lists("ab", 6), lists("abcd", 4)} {
		for _, catalogue := range short {
			for _, shelf := range short {
				if slowSorted(catalogue) && sameCounts(catalogue, shelf) {
					wantPutRight(t, catalogue, shelf)
				}
			}
		}
	}
}

// displaced returns a shelf that is its catalogue but for one slip, one swap, both or more.
func displaced(r *rand.Rand, catalogue []impl.Book) []impl.Book {
	shelf := slices.Clone(catalogue)
	for range r.IntN(3) {
		from, to := r.IntN(len(shelf)), r.IntN(len(shelf))
		if r.IntN(2) == 0 {
			shelf, _ = slowPut(shelf, from, 1, to)
		} else {
			shelf[from], shelf[to] = shelf[to], shelf[from]
		}
	}
	return shelf
}

// TestDisplaced has longer shelves, up to MaxBooks, with many equal books and with none.
func TestDisplaced(t *testing.T) {
	r := newRandom()
	for round := range 300 {
		catalogue := anyBooks(r, 1+r.IntN(12))
		if round%20 == 0 {
			catalogue = anyBooks(r, impl.MaxBooks)
		}
		if round%2 == 0 {
			for i := range catalogue {
				catalogue[i] = pickOf(r, lookalikes(int16(r.IntN(5)))...)
			}
		}
		catalogue = slowSort(usual, catalogue)
		wantPutRight(t, catalogue, displaced(r, catalogue))
		wantPutRight(t, catalogue, mixed(r, catalogue))
	}
}

func TestSlipsOfFullShelf(t *testing.T) {
	var catalogue []impl.Book
	for i := range impl.MaxBooks {
		catalogue = append(catalogue, bookOf(int16(i), "abc", 1, 1))
	}
	last, _ := slowPut(catalogue, 59, 1, 0)
	wantResults(t, "the last one first", all(impl.OneSlip(catalogue, last)), impl.Move{From: 0, To: 59}, code(impl.OK))
	first, _ := slowPut(catalogue, 0, 1, 59)
	wantResults(t, "the first one last", all(impl.OneSlip(catalogue, first)), impl.Move{From: 59, To: 0}, code(impl.OK))
	ends := slices.Clone(catalogue)
	ends[0], ends[59] = ends[59], ends[0]
	wantResults(t, "both ends", all(impl.OneSwap(catalogue, ends)), impl.Move{From: 0, To: 59}, code(impl.OK))
	wantResults(t, "both ends", all(impl.OneSlip(catalogue, ends)), impl.Move{}, code(impl.ErrNotFound))
	wantResults(t, "right", all(impl.OneSlip(catalogue, catalogue)), impl.Move{}, code(impl.ErrNotFound))
	wantResults(t, "right", all(impl.OneSwap(catalogue, catalogue)), impl.Move{}, code(impl.ErrNotFound))
	backwards := slices.Clone(catalogue)
	slices.Reverse(backwards)
	wantResults(t, "backwards", all(impl.FewestSlips(catalogue, backwards)), int64(59), code(impl.OK))
	wantPutRight(t, catalogue, backwards)
	equal := slices.Repeat(catalogue[:1], impl.MaxBooks)
	wantPutRight(t, equal, equal)
}

func TestFewestSlips(t *testing.T) {
	type asked struct {
		catalogue, shelf string
		slips            int64
	}
	for _, a := range []asked{
		{"", "", 0}, {"abc", "abc", 0}, {"abc", "bca", 1}, {"abc", "cba", 2}, {"abcd", "badc", 2}, {"abcd", "dcba", 3}, {"aab", "aba", 1},
		// The shelf is sorted, though it is not the catalogue.
		{"aA", "Aa", 0}, {"aAb", "Aab", 0}, {"aAb", "Aba", 1}, {"aAbB", "AaBb", 0},
	} {
		wantResults(t, a.shelf+" of "+a.catalogue, all(impl.FewestSlips(books(a.catalogue), books(a.shelf))), a.slips, code(impl.OK))
	}
}

func TestRightPlaces(t *testing.T) {
	type asked struct {
		catalogue, shelf string
		places           []int64
	}
	for _, a := range []asked{
		{"", "", nil}, {"a", "a", []int64{0}}, {"abc", "abc", []int64{0, 1, 2}}, {"abc", "bca", []int64{1, 2, 0}}, {"abcd", "dbca", []int64{3, 1, 2, 0}},
		// Equal ones in their order; those that differ in any field where they stand in the catalogue.
		{"aab", "aba", []int64{0, 2, 1}}, {"aaa", "aaa", []int64{0, 1, 2}}, {"aAa", "aaA", []int64{0, 2, 1}}, {"aA", "Aa", []int64{1, 0}}, {"aAab", "baaA", []int64{3, 0, 2, 1}}, {"aAaAb", "AAbaa", []int64{1, 3, 4, 0, 2}},
		{"aabbcc", "cbacba", []int64{4, 2, 0, 5, 3, 1}},
	} {
		wantResults(t, a.shelf+" of "+a.catalogue, all(impl.RightPlaces(books(a.catalogue), books(a.shelf))), a.places, code(impl.OK))
	}
	alike := slices.Concat(lookalikes(5), lookalikes(5))
	backwards := slices.Clone(alike)
	slices.Reverse(backwards)
	wantResults(t, "lookalikes", all(impl.RightPlaces(alike, backwards)), []int64{3, 2, 1, 0, 7, 6, 5, 4}, code(impl.OK))
}

// TestRightPlacesPutRight: when each book is put where it should stand, the shelf is its catalogue.
func TestRightPlacesPutRight(t *testing.T) {
	r := newRandom()
	for round := range 300 {
		shelf := anyBooks(r, round%(impl.MaxBooks+1))
		catalogue := slowSort(usual, mixed(r, shelf))
		places, cd := impl.RightPlaces(catalogue, shelf)
		if cd != impl.OK || len(places) != len(shelf) {
			t.Fatalf("%v of %v: code %d, %v", shelf, catalogue, cd, places)
		}
		put := make([]impl.Book, len(shelf))
		for i, at := range places {
			put[at] = shelf[i]
		}
		wantResults(t, fmt.Sprint(shelf), all(put), catalogue)
	}
}
