package tests

import (
	"fmt"
	"slices"
	"strings"
	"testing"

	"loop.example/g01326/impl"
)

func TestChecksExample(t *testing.T) {
	wantLabel(t, plainFirst(t), "513euc013")
	near, cd := impl.NearLabels("513euc018")
	wantResults(t, "near", all(slices.Contains(near, "513euc013"), slices.Contains(near, "513euc018"), cd), true, false, code(impl.OK))
	catalogue, shelf := classed(100, 200, 300), classed(200, 300, 100)
	wantResults(t, "missing", all(impl.MissingBooks(catalogue, shelf)), []impl.Book(nil), code(impl.OK))
	wantResults(t, "out of place", all(impl.OutOfPlace(shelf)), []int64{2}, code(impl.OK))
	wantResults(t, "slip", all(impl.OneSlip(catalogue, shelf)), impl.Move{From: 2, To: 0}, code(impl.OK))
	wantResults(t, "swap", all(impl.OneSwap(catalogue, classed(300, 200, 100))), impl.Move{From: 0, To: 2}, code(impl.OK))
	wantResults(t, "length", all(impl.WalkLength([]int64{1, 9, 6}, 5)), int64(15), code(impl.OK))
	wantResults(t, "walk", all(impl.ShortestWalk([]int64{1, 9, 6}, 5)), []int64{1, 6, 9}, int64(12), code(impl.OK))
	wantResults(t, "as short", all(impl.WalkLength([]int64{6, 9, 1}, 5)), int64(12), code(impl.OK))
	wantResults(t, "report", all(impl.ReportOf(catalogue, shelf)), "place 2 100aaa013\n", code(impl.OK))
}

// plainFirst returns the first book of the example of chapter 1.
func plainFirst(t *testing.T) impl.Book {
	t.Helper()
	return readList(t, exampleText)[0]
}

func TestReports(t *testing.T) {
	a, b, c, d := "000aaa012", "001aaa019", "002aaa016", "003aaa013"
	type asked struct {
		catalogue, shelf string
		lines            []string
	}
	for _, r := range []asked{
		{"", "", nil}, {"abc", "abc", nil}, {"aA", "Aa", nil}, {"aab", "aab", nil},
		// Missing, foreign and out of place, each alone.
		{"abc", "ac", []string{"missing " + b}}, {"abc", "", []string{"missing " + a, "missing " + b, "missing " + c}},
		{"ac", "abc", []string{"foreign " + b}}, {"", "abc", []string{"foreign " + a, "foreign " + b, "foreign " + c}},
		{"abc", "bca", []string{"place 2 " + a}}, {"abc", "cba", []string{"place 1 " + b, "place 2 " + a}}, {"abcd", "dabc", []string{"place 0 " + d}},
		// All together, and any two of them: first what is missing, in the order of the catalogue, then what is foreign and out of place, in that of the shelf.
		{"abd", "dca", []string{"missing " + b, "foreign " + c, "place 1 " + c, "place 2 " + a}},
		{"abc", "ba", []string{"missing " + c, "place 1 " + a}}, {"ab", "bca", []string{"foreign " + c, "place 2 " + a}}, {"abc", "abd", []string{"missing " + c, "foreign " + d}},
		{"cd", "ba", []string{"missing " + c, "missing " + d, "foreign " + b, "foreign " + a, "place 1 " + a}},
		// A foreign book is out of place as well as any other one.
		{"abc", "dabc", []string{"foreign " + d, "place 0 " + d}}, {"abc", "abca", []string{"foreign " + a, "place 3 " + a}},
		// Equal books, as often as they are; those that are equal by the usual order only have the same label.
		{"aab", "ab", []string{"missing " + a}}, {"aaab", "ab", []string{"missing " + a, "missing " + a}}, {"ab", "bbab", []string{"foreign " + b, "foreign " + b, "place 2 " + a}},
		{"aA", "aa", []string{"missing " + a, "foreign " + a}}, {"aAa", "bB", []string{"missing " + a, "missing " + a, "missing " + a, "foreign " + b, "foreign " + b}},
	} {
		text := strings.Join(append(r.lines, ""), "\n")
		wantResults(t, r.shelf+" of "+r.catalogue, all(impl.ReportOf(books(r.catalogue), books(r.shelf))), text, code(impl.OK))
		wantResults(t, r.shelf+" of "+r.catalogue, all(slowReport(books(r.catalogue), books(r.shelf))), text)
	}
}

func TestManyReports(t *testing.T) {
	r := newRandom()
	for range 300 {
		catalogue, shelf := anyStocks(r, 9)
		for i := range catalogue {
			if other := labelledOf(int(catalogue[i].Class), "zzz", 1+r.IntN(99)); r.IntN(9) == 0 {
				catalogue[i] = other
			}
		}
		catalogue = slowSort(usual, catalogue)
		wantResults(t, fmt.Sprint(shelf, catalogue), all(impl.ReportOf(catalogue, shelf)), slowReport(catalogue, shelf), code(impl.OK))
	}
}

// TestGreatestReport has MaxBooks books in the catalogue and on the shelf, none in common, and all but one of these out of place.
func TestGreatestReport(t *testing.T) {
	var catalogue, shelf []impl.Book
	want := ""
	for i := range impl.MaxBooks {
		catalogue = append(catalogue, labelledOf(i, "cat", 99))
		want += "missing " + slowLabel(catalogue[i]) + "\n"
	}
	for i := range impl.MaxBooks {
		shelf = append(shelf, labelledOf(999-i, "she", 1))
		want += "foreign " + slowLabel(shelf[i]) + "\n"
	}
	for i := 1; i < impl.MaxBooks; i++ {
		want += fmt.Sprintf("place %d %s\n", i, slowLabel(shelf[i]))
	}
	wantResults(t, "the greatest report", all(impl.ReportOf(catalogue, shelf)), want, code(impl.OK))
	full := slices.Repeat(classed(5), impl.MaxBooks)
	wantResults(t, "60 missing", all(impl.ReportOf(full, nil)), strings.Repeat("missing 005aaa017\n", 60), code(impl.OK))
	wantResults(t, "60 foreign", all(impl.ReportOf(nil, full)), strings.Repeat("foreign 005aaa017\n", 60), code(impl.OK))
	wantResults(t, "all right", all(impl.ReportOf(full, full)), "", code(impl.OK))
}
