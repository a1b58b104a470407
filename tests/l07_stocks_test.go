package tests

import (
	"fmt"
	"math"
	"slices"
	"testing"

	"loop.example/g01326/impl"
)

// wantStocks checks all that is told of the stocks of a catalogue and a shelf.
func wantStocks(t *testing.T, catalogue, shelf []impl.Book) {
	t.Helper()
	name := fmt.Sprint(catalogue, " and ", shelf)
	missing, foreign := slowOver(catalogue, shelf), slowOver(shelf, catalogue)
	wantResults(t, "missing of "+name, all(impl.MissingBooks(catalogue, shelf)), missing, code(impl.OK))
	wantResults(t, "foreign of "+name, all(impl.ForeignBooks(catalogue, shelf)), foreign, code(impl.OK))
	wantResults(t, "same "+name, all(impl.SameStock(catalogue, shelf)), sameCounts(catalogue, shelf), code(impl.OK))
}

func TestStocks(t *testing.T) {
	type asked struct{ catalogue, shelf, missing, foreign string }
	for _, a := range []asked{
		{"", "", "", ""}, {"abc", "", "abc", ""}, {"", "cab", "", "cab"}, {"abc", "cab", "", ""}, {"abc", "ca", "b", ""}, {"ac", "cab", "", "b"},
		{"abd", "cab", "d", "c"}, {"ad", "cb", "ad", "cb"}, {"acde", "fdbg", "ace", "fbg"},
		// Equal in all fields: missing and foreign as often as they are.
		{"aab", "ab", "a", ""}, {"aaab", "ba", "aa", ""}, {"ab", "baa", "", "a"}, {"ab", "abab", "", "ab"}, {"aabb", "bbbaaa", "", "ba"}, {"aaaa", "aa", "aa", ""}, {"aaaa", "b", "aaaa", "b"},
		// Equal by the usual order only: others.
		{"a", "A", "a", "A"}, {"aA", "Aa", "", ""}, {"aA", "a", "A", ""}, {"aA", "A", "a", ""}, {"aA", "AA", "a", "A"}, {"aa", "aA", "a", "A"}, {"AaA", "aAa", "A", "a"}, {"aab", "AAb", "aa", "AA"},
		// The last ones of equal ones, so that others may stand ahead of them or behind.
		{"aAa", "a", "Aa", ""}, {"aAa", "A", "aa", ""}, {"aAaA", "aA", "aA", ""}, {"aaAA", "Aa", "aA", ""}, {"AaaA", "aA", "aA", ""}, {"aAaAa", "aaA", "Aa", ""},
		{"a", "aAa", "", "Aa"}, {"ab", "abba", "", "ba"}, {"ab", "bacab", "", "cab"}, {"aAb", "AbaAbaA", "", "AbaA"}, {"b", "abcb", "", "acb"}, {"bc", "cbacba", "", "acba"},
	} {
		catalogue, shelf := books(a.catalogue), books(a.shelf)
		name := a.catalogue + " and " + a.shelf
		missing, cd := impl.MissingBooks(catalogue, shelf)
		wantResults(t, name, all(lettersOf(missing), cd), a.missing, code(impl.OK))
		foreign, cd := impl.ForeignBooks(catalogue, shelf)
		wantResults(t, name, all(lettersOf(foreign), cd), a.foreign, code(impl.OK))
		wantResults(t, name, all(impl.SameStock(catalogue, shelf)), a.missing == "" && a.foreign == "", code(impl.OK))
	}
}

// TestAllStocks compares the stocks of all short lists with those by the document's words.
func TestAllStocks(t *testing.T) {
	short := lists("aAb", 4)
	for _, catalogue := range short {
		for _, shelf := range short {
			if slowSorted(catalogue) {
				wantStocks(t, catalogue, shelf)
			}
		}
	}
	r := newRandom()
	for range 1000 {
		wantStocks(t, slowSort(usual, anyBooks(r, r.IntN(8))), anyBooks(r, r.IntN(8)))
		catalogue, shelf := anyStocks(r, impl.MaxBooks)
		wantStocks(t, catalogue, shelf)
	}
}

// TestStocksOfLookalikes has books that differ in Wide, High or Weight only, in the catalogue, on the shelf and in both.
func TestStocksOfLookalikes(t *testing.T) {
	alike := lookalikes(5)
	for i, b := range alike {
		others := slices.Concat(alike[:i], alike[i+1:])
		wantResults(t, "missing once", all(impl.MissingBooks(alike, others)), []impl.Book{b}, code(impl.OK))
		wantResults(t, "foreign once", all(impl.ForeignBooks(others, alike)), []impl.Book{b}, code(impl.OK))
		wantResults(t, "others missing", all(impl.MissingBooks(alike, []impl.Book{b, b})), others, code(impl.OK))
		wantResults(t, "one foreign", all(impl.ForeignBooks(alike, []impl.Book{b, b})), []impl.Book{b}, code(impl.OK))
		wantResults(t, "others foreign", all(impl.ForeignBooks([]impl.Book{b, b}, alike)), others, code(impl.OK))
		twice := slices.Concat(alike, alike)
		wantResults(t, "twice", all(impl.MissingBooks(twice, alike)), alike, code(impl.OK))
		wantResults(t, "foreign twice", all(impl.ForeignBooks(alike, twice)), alike, code(impl.OK))
		wantResults(t, "in another order", all(impl.SameStock(alike, append(slices.Clone(others), b))), true, code(impl.OK))
		for j, other := range alike {
			wantResults(t, fmt.Sprint(i, j), all(impl.SameStock([]impl.Book{b}, []impl.Book{other})), i == j, code(impl.OK))
		}
	}
}

// TestFullStocks has catalogues and shelves of MaxBooks books.
func TestFullStocks(t *testing.T) {
	var all60 []impl.Book
	for i := range impl.MaxBooks {
		all60 = append(all60, bookOf(int16(i*3), "zzz", 99, 9999))
	}
	backwards := slices.Clone(all60)
	slices.Reverse(backwards)
	wantStocks(t, all60, backwards)
	wantStocks(t, all60, nil)
	wantStocks(t, nil, backwards)
	wantStocks(t, all60, backwards[1:])
	wantStocks(t, all60[:59], backwards)
	equal := slices.Repeat(classed(5), impl.MaxBooks)
	wantStocks(t, equal, equal)
	wantStocks(t, equal, equal[:59])
	wantStocks(t, equal[:59], equal)
	wantStocks(t, equal, nil)
	wantStocks(t, nil, equal)
	wantStocks(t, equal, backwards)
}

// TestStockOfRest is of chapter 7: a shelf without what is missing and foreign has the stock of its catalogue.
func TestStockOfRest(t *testing.T) {
	r := newRandom()
	for range 500 {
		catalogue, shelf := anyStocks(r, impl.MaxBooks)
		missing, _ := impl.MissingBooks(catalogue, shelf)
		foreign, _ := impl.ForeignBooks(catalogue, shelf)
		known := slowOver(catalogue, missing)
		rest := slowOver(shelf, foreign)
		if len(known)+len(missing) != len(catalogue) || len(rest)+len(foreign) != len(shelf) {
			t.Fatalf("%v and %v: %v are missing, %v foreign", catalogue, shelf, missing, foreign)
		}
		wantResults(t, fmt.Sprint(catalogue, shelf), all(impl.SameStock(known, rest)), true, code(impl.OK))
		if both := slices.Concat(rest, missing); len(both) <= impl.MaxBooks {
			wantResults(t, fmt.Sprint(catalogue, shelf), all(impl.SameStock(catalogue, both)), true, code(impl.OK))
		}
	}
}

// TestStockErrors is of the order of errors: lists that are not valid, a catalogue that is not sorted, other stocks, and only then what cannot be found.
func TestStockErrors(t *testing.T) {
	sorted, mixedUp := classed(1, 2, 3), classed(1, 3, 2)
	full := slices.Repeat(classed(5), impl.MaxBooks)
	fullOut := append(classed(6), full[1:]...)
	for _, call := range stockCalls() {
		for _, bad := range listsOutside() {
			for _, other := range [][]impl.Book{nil, sorted, mixedUp, full, bad} {
				wantCode(t, call.name+" of a bad catalogue", call.run(bad, other), impl.ErrInvalid)
				wantCode(t, call.name+" of a bad shelf", call.run(other, bad), impl.ErrInvalid)
			}
		}
		for _, shelf := range [][]impl.Book{nil, sorted, mixedUp, classed(9), full} {
			wantCode(t, call.name+" of no order", call.run(mixedUp, shelf), impl.ErrState)
			wantCode(t, call.name+" of no order", call.run(fullOut, shelf), impl.ErrState)
			wantCode(t, call.name+" of no order", call.run(classed(2, 1), shelf), impl.ErrState)
		}
		other := code(impl.OK)
		if call.needsSame {
			other = impl.ErrProof
		}
		for _, shelf := range [][]impl.Book{nil, classed(1, 2), classed(3, 2, 1, 1), classed(1, 2, 4), classed(1, 1, 2), weighed(sorted), full} {
			wantCode(t, call.name+" of other stocks", call.run(sorted, shelf), other)
		}
		wantCode(t, call.name+" of another book", call.run(books("aA"), books("aa")), other)
		wantCode(t, call.name+" of one book more", call.run(full[1:], full), other)
		wantCode(t, call.name+" of one book less", call.run(full, full[1:]), other)
		wantCode(t, call.name+" of no catalogue", call.run(nil, classed(1)), other)
	}
}

// TestOutOfPlace is of promise 15: books out of place, taken out, leave a sorted shelf, and no fewer do.
func TestOutOfPlace(t *testing.T) {
	for _, shelf := range slices.Concat(allPatterns(4), lists("aAbB", 5)) {
		wantOutOfPlace(t, shelf, slowOut(shelf))
	}
	r := newRandom()
	for round := range 200 {
		shelf := anyBooks(r, round%10)
		wantOutOfPlace(t, shelf, slowOut(shelf))
	}
	for round := range 500 {
		shelf := anyBooks(r, round%(impl.MaxBooks+1))
		kept, _ := impl.KeptBooks(shelf)
		var out []int64
		for i := range shelf {
			if !slices.Contains(kept, int64(i)) {
				out = append(out, int64(i))
			}
		}
		wantOutOfPlace(t, shelf, out)
	}
}

// wantOutOfPlace checks which books of a shelf are out of place, and that the others are sorted as they stand.
func wantOutOfPlace(t *testing.T, shelf []impl.Book, want []int64) {
	t.Helper()
	out, cd := impl.OutOfPlace(shelf)
	wantResults(t, fmt.Sprint("out of place of ", shelf), all(out, cd), want, code(impl.OK))
	rest, cd := impl.WithoutBooks(shelf, out)
	if cd != impl.OK || !slowSorted(rest) || len(rest) != len(shelf)-len(out) {
		t.Errorf("%v: code %d, and without %v it is %v", shelf, cd, out, rest)
	}
	wantResults(t, fmt.Sprint("rest of ", shelf), all(impl.IsSorted(rest)), true, code(impl.OK))
	least, _ := impl.LeastMoves(shelf)
	wantResults(t, fmt.Sprint("least moves of ", shelf), all(least), int64(len(out)))
}

func TestOutOfPlaceOfFew(t *testing.T) {
	for shelf, out := range map[string][]int64{
		"": nil, "a": nil, "abc": nil, "aab": nil, "aAa": nil, "Aab": nil, "ba": {1}, "bca": {2}, "cab": {0}, "cba": {1, 2}, "acb": {2}, "bAa": {0}, "baA": {0}, "bBa": {2}, "cdab": {2, 3}, "dabc": {0}, "bacba": {1, 3, 4},
	} {
		wantResults(t, shelf, all(impl.OutOfPlace(books(shelf))), out, code(impl.OK))
	}
	for _, bad := range listsOutside() {
		wantResults(t, "not valid", all(impl.OutOfPlace(bad)), []int64(nil), code(impl.ErrInvalid))
	}
}

func TestWithoutBooks(t *testing.T) {
	type asked struct {
		shelf string
		out   []int64
		rest  string
	}
	for _, a := range []asked{
		{"", nil, ""}, {"a", nil, "a"}, {"a", []int64{0}, ""}, {"dabc", nil, "dabc"}, {"dabc", []int64{}, "dabc"}, {"dabc", []int64{0}, "abc"}, {"dabc", []int64{3}, "dab"},
		{"dabc", []int64{1, 2}, "dc"}, {"dabc", []int64{0, 3}, "ab"}, {"dabc", []int64{0, 1, 2, 3}, ""}, {"aAaA", []int64{1, 3}, "aa"}, {"aAaA", []int64{0, 3}, "Aa"}, {"aaa", []int64{1}, "aa"},
	} {
		rest, cd := impl.WithoutBooks(books(a.shelf), a.out)
		wantResults(t, fmt.Sprint(a.shelf, a.out), all(lettersOf(rest), cd), a.rest, code(impl.OK))
	}
	none := []impl.Book(nil)
	for _, out := range [][]int64{{0, 0}, {1, 1, 2}, {3, 3}, {1, 0}, {3, 2, 1, 0}, {0, 2, 1}, {0, 3, 1}, {-1}, {-1, 0}, {0, -1}, {4}, {0, 4}, {4, 5}, {4, 0}, {0, 1, 2, 3, 4}, {0, 1, 2, 3, 3}, {0, 1, 2, 3, 0},
		{60}, {1 << 32}, {1<<32 + 1}, {256}, {0, 1<<32 + 2}, {math.MinInt64}, {math.MaxInt64}, {math.MaxInt64, math.MinInt64}, {0, math.MaxInt64}, {0, math.MinInt64}} {
		wantResults(t, fmt.Sprint(out), all(impl.WithoutBooks(books("dabc"), out)), none, code(impl.ErrRange))
		for _, bad := range listsOutside() {
			wantResults(t, fmt.Sprint("not valid ", out), all(impl.WithoutBooks(bad, out)), none, code(impl.ErrInvalid))
		}
	}
	for _, bad := range listsOutside() {
		wantResults(t, "not valid", all(impl.WithoutBooks(bad, nil)), none, code(impl.ErrInvalid))
		wantResults(t, "not valid", all(impl.WithoutBooks(bad, []int64{0})), none, code(impl.ErrInvalid))
	}
	wantResults(t, "of no books", all(impl.WithoutBooks(nil, []int64{0})), none, code(impl.ErrRange))
	full := weighed(slices.Repeat(classed(5), impl.MaxBooks))
	wantResults(t, "the last one of 60", all(impl.WithoutBooks(full, []int64{59})), full[:59], code(impl.OK))
	wantResults(t, "behind the last one of 60", all(impl.WithoutBooks(full, []int64{60})), none, code(impl.ErrRange))
	indices := make([]int64, impl.MaxBooks)
	for i := range indices {
		indices[i] = int64(i)
	}
	wantResults(t, "all 60", all(impl.WithoutBooks(full, indices)), none, code(impl.OK))
	wantResults(t, "all but one", all(impl.WithoutBooks(full, slices.Concat(indices[:30], indices[31:]))), full[30:31], code(impl.OK))
	wantResults(t, "one more than all", all(impl.WithoutBooks(full, append(indices, 60))), none, code(impl.ErrRange))
}
