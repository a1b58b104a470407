package tests

import (
	"math"
	"slices"
	"strings"
	"testing"

	"loop.example/g01326/impl"
)

// given are the arguments from which each call takes what it needs.
type given struct {
	order []int8
	a, b  []impl.Book
	x, y  impl.Book
	n, m  int64
	text  string
}

// bookCall is a function of chapter 1 with its arguments chosen; hasCode tells that its last result is a code.
type bookCall struct {
	name    string
	hasCode bool
	run     func(g given) []any
}

// bookCalls lists all functions of chapter 1.
func bookCalls() []bookCall {
	return []bookCall{
		{"CodeName", false, func(g given) []any { return all(impl.CodeName(g.n)) }},
		{"ValidBook", false, func(g given) []any { return all(impl.ValidBook(g.x)) }},
		{"ValidBooks", false, func(g given) []any { return all(impl.ValidBooks(g.a)) }},
		{"SameBooks", false, func(g given) []any { return all(impl.SameBooks(g.a, g.b)) }},
		{"ValidOrder", false, func(g given) []any { return all(impl.ValidOrder(g.order)) }},
		{"CompareBy", true, func(g given) []any { return all(impl.CompareBy(g.order, g.x, g.y)) }},
		{"CompareBooks", false, func(g given) []any { return all(impl.CompareBooks(g.x, g.y)) }},
		{"SortBooks", true, func(g given) []any { return all(impl.SortBooks(g.order, g.a)) }},
		{"IsSorted", true, func(g given) []any { return all(impl.IsSorted(g.a)) }},
		{"FirstOut", true, func(g given) []any { return all(impl.FirstOut(g.a)) }},
		{"PairsOut", true, func(g given) []any { return all(impl.PairsOut(g.a)) }},
		{"RunsOf", true, func(g given) []any { return all(impl.RunsOf(g.a)) }},
		{"LongestRun", true, func(g given) []any { return all(impl.LongestRun(g.a)) }},
		{"PlaceFor", true, func(g given) []any { return all(impl.PlaceFor(g.a, g.x)) }},
		{"FindBook", true, func(g given) []any { return all(impl.FindBook(g.a, g.n, g.text, g.m)) }},
		{"ClassRange", true, func(g given) []any { return all(impl.ClassRange(g.a, g.n, g.m)) }},
		{"MergeBooks", true, func(g given) []any { return all(impl.MergeBooks(g.a, g.b)) }},
		{"TotalsOf", true, func(g given) []any { return all(impl.TotalsOf(g.a)) }},
		{"CountByHundreds", true, func(g given) []any { return all(impl.CountByHundreds(g.a)) }},
		{"BookText", false, func(g given) []any { return all(impl.BookText(g.x)) }},
		{"ReadBook", true, func(g given) []any { return all(impl.ReadBook(g.text)) }},
		{"BooksText", false, func(g given) []any { return all(impl.BooksText(g.a)) }},
		{"ReadBooks", true, func(g given) []any { return all(impl.ReadBooks(g.text)) }},
	}
}

// manyGiven are arguments of all kinds, valid and not.
func manyGiven() []given {
	r := newRandom()
	sorted := slowSort(usual, anyBooks(r, 25))
	lists := [][]impl.Book{nil, {}, {plain}, {plain, plain}, sorted, anyBooks(r, 25), anyBooks(r, impl.MaxBooks),
		slowSort(usual, anyBooks(r, impl.MaxBooks)), slices.Repeat([]impl.Book{plain}, impl.MaxBooks+1), {{}}, {plain, {Class: -1}}}
	orders := [][]int8{nil, {}, {1}, {-6, 5, -4, 3, -2, 1}, {-2}, {-128}, {1, -1}, {1, 2, 3, 4, 5, 6, 1}}
	books := []impl.Book{plain, {}, sorted[3], {Class: math.MinInt16, Mark: [3]byte{0xff}, Volume: math.MaxInt16}}
	numbers := []int64{0, 7, 513, 999, -1, 1000, math.MinInt64, math.MaxInt64}
	texts := []string{"", "euc", impl.BookText(plain), exampleText, "\xff\x00", "0513 euc 1 25x240 800\n", "513 euc 1 25x240 800"}
	var out []given
	for i := range 400 {
		g := given{order: orders[i%len(orders)], a: lists[r.IntN(len(lists))], b: lists[r.IntN(len(lists))]}
		g.x, g.y = books[r.IntN(len(books))], books[r.IntN(len(books))]
		g.n, g.m = numbers[r.IntN(len(numbers))], numbers[r.IntN(len(numbers))]
		g.text = texts[r.IntN(len(texts))]
		out = append(out, g)
	}
	// FindBook finds nothing with those above.
	return append(out, given{a: []impl.Book{plain}, n: 513, m: 7, text: "euc"})
}

// roomy returns the same arguments with new slices that have room behind them.
func roomy(g given) given {
	g.order = withRoom(g.order, 3)
	g.a = withRoom(g.a, bookOf(7, "fil", 1, 1))
	g.b = withRoom(g.b, bookOf(8, "fil", 1, 1))
	return g
}

// wholeGiven returns a copy of all arguments, with all capacity of their slices.
func wholeGiven(g given) given {
	g.order = whole(g.order)
	g.a = whole(g.a)
	g.b = whole(g.b)
	return g
}

// TestPure is of promise 1: no argument is changed or shared with a result, and equal arguments have equal results.
func TestPure(t *testing.T) {
	for _, call := range bookCalls() {
		for _, g := range manyGiven() {
			wantPure(t, call.name, g, roomy, wholeGiven, call.run)
		}
	}
}

// TestZeroBesideErrors is of promise 1: beside an error all other results are zero values.
func TestZeroBesideErrors(t *testing.T) {
	for _, call := range bookCalls() {
		if call.hasCode {
			wantZeroBesideErrors(t, call.name, manyGiven(), call.run)
		}
	}
}

// TestInvalidFirst is of promise 1: a list that is not valid is told ahead of all other errors.
func TestInvalidFirst(t *testing.T) {
	outside := [][]impl.Book{slices.Repeat([]impl.Book{plain}, impl.MaxBooks+1)}
	for _, bad := range booksOutside() {
		outside = append(outside, []impl.Book{bad}, []impl.Book{plain, bookOf(1, "aaa", 1, 1), bad})
	}
	listCalls := []string{"SortBooks", "IsSorted", "FirstOut", "PairsOut", "RunsOf", "LongestRun", "PlaceFor", "FindBook", "ClassRange", "MergeBooks", "TotalsOf", "CountByHundreds"}
	for _, call := range bookCalls() {
		if !slices.Contains(listCalls, call.name) {
			continue
		}
		for _, list := range outside {
			results := call.run(given{order: usual, a: list, x: plain, n: 9, m: 1})
			if c := results[len(results)-1]; c != code(impl.ErrInvalid) {
				t.Errorf("%s of %v: code %v", call.name, list, c)
			}
		}
	}
}

// TestReturnsForGreatArguments is of promise 1: every function returns for a million elements.
func TestReturnsForGreatArguments(t *testing.T) {
	const many = 1_000_000
	texts := []string{strings.Repeat("0", many), strings.Repeat("9", many), strings.Repeat(" ", many), strings.Repeat("\n", many),
		strings.Repeat(impl.BookText(plain)+"\n", many/21), strings.Repeat("a", many)}
	for _, call := range bookCalls() {
		for _, text := range texts {
			g := given{text: text, order: make([]int8, many), a: make([]impl.Book, many), b: slices.Repeat([]impl.Book{plain}, many), n: math.MinInt64, m: math.MaxInt64}
			results := call.run(g)
			if call.hasCode && results[len(results)-1] == code(impl.OK) {
				t.Errorf("%s accepts a million elements", call.name)
			}
		}
	}
	list := slices.Repeat([]impl.Book{plain}, many)
	if !impl.SameBooks(list, slices.Clone(list)) {
		t.Error("a million equal books are not the same")
	}
}
