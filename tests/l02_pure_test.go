package tests

import (
	"fmt"
	"math"
	"math/rand/v2"
	"slices"
	"strings"
	"testing"

	"loop.example/g01326/impl"
)

// onShelves are the arguments from which each call of chapter 2 takes what it needs.
type onShelves struct {
	c, d       impl.Case
	list       []impl.Book
	ends, more []int64
	table      [][]int64
	n, m       int64
	text       string
}

// shelfCall is a function of chapter 2 with its arguments chosen; withLayout tells that it returns ErrProof for numbers that are none.
type shelfCall struct {
	name                string
	hasCode, withLayout bool
	run                 func(g onShelves) []any
}

// shelfCalls lists all functions of chapter 2.
func shelfCalls() []shelfCall {
	return []shelfCall{
		{"ValidCase", false, false, func(g onShelves) []any { return all(impl.ValidCase(g.c)) }},
		{"SameCase", false, false, func(g onShelves) []any { return all(impl.SameCase(g.c, g.d)) }},
		{"FitsOn", true, false, func(g onShelves) []any { return all(impl.FitsOn(g.c, g.n, g.list)) }},
		{"FillShelves", true, false, func(g onShelves) []any { return all(impl.FillShelves(g.c, g.list)) }},
		{"CheckLayout", true, false, func(g onShelves) []any { return all(impl.CheckLayout(g.c, g.list, g.ends)) }},
		{"FirstBadShelf", true, false, func(g onShelves) []any { return all(impl.FirstBadShelf(g.c, g.list, g.ends)) }},
		{"FreeOn", true, true, func(g onShelves) []any { return all(impl.FreeOn(g.c, g.list, g.ends)) }},
		{"CostOf", true, true, func(g onShelves) []any { return all(impl.CostOf(g.c, g.list, g.ends)) }},
		{"UsedShelves", true, true, func(g onShelves) []any { return all(impl.UsedShelves(g.c, g.list, g.ends)) }},
		{"FewestShelves", true, false, func(g onShelves) []any { return all(impl.FewestShelves(g.c, g.list)) }},
		{"LeastCost", true, false, func(g onShelves) []any { return all(impl.LeastCost(g.c, g.list)) }},
		{"TableOf", true, false, func(g onShelves) []any { return all(impl.TableOf(g.c, g.list)) }},
		{"CheckTable", true, false, func(g onShelves) []any { return all(impl.CheckTable(g.c, g.list, g.table)) }},
		{"ProvedCost", true, false, func(g onShelves) []any { return all(impl.ProvedCost(g.c, g.list, g.table)) }},
		{"WhereIs", true, true, func(g onShelves) []any { return all(impl.WhereIs(g.c, g.list, g.ends, g.n)) }},
		{"BookAt", true, true, func(g onShelves) []any { return all(impl.BookAt(g.c, g.list, g.ends, g.n, g.m)) }},
		{"MovedBooks", true, false, func(g onShelves) []any { return all(impl.MovedBooks(g.ends, g.more)) }},
		{"ShelfOfClass", true, true, func(g onShelves) []any { return all(impl.ShelfOfClass(g.c, g.list, g.ends, g.n)) }},
		{"CaseText", false, false, func(g onShelves) []any { return all(impl.CaseText(g.c)) }},
		{"ReadCase", true, false, func(g onShelves) []any { return all(impl.ReadCase(g.text)) }},
		{"LayoutText", false, false, func(g onShelves) []any { return all(impl.LayoutText(g.ends)) }},
		{"ReadLayout", true, false, func(g onShelves) []any { return all(impl.ReadLayout(g.text)) }},
	}
}

// ofStock tells which functions have a case and a list of books, and so ErrInvalid.
func ofStock(call shelfCall) bool {
	return call.hasCode && !slices.Contains([]string{"MovedBooks", "ReadCase", "ReadLayout"}, call.name)
}

// anyOnShelves returns arguments that often belong together.
func anyOnShelves(r *rand.Rand) onShelves {
	g := onShelves{c: anyCase(r, 1+r.IntN(5)), list: smallBooks(r, r.IntN(9))}
	g.d = impl.Case{Wide: g.c.Wide, Load: g.c.Load, Heights: slices.Clone(g.c.Heights)}
	g.ends, _ = impl.FillShelves(g.c, g.list)
	g.more, _, _ = impl.LeastCost(g.c, g.list)
	g.table, _ = impl.TableOf(g.c, g.list)
	g.n, g.m = int64(r.IntN(4)), int64(r.IntN(6))
	g.text = pickOf(r, impl.CaseText(g.c), impl.LayoutText(g.ends))
	return g
}

// manyOnShelves are arguments of all kinds, valid and not.
func manyOnShelves() []onShelves {
	r := newRandom()
	cases := append(casesInside(), casesOutside()...)
	lists := [][]impl.Book{nil, {}, {plain}, {{}}, slices.Repeat([]impl.Book{plain}, impl.MaxBooks), slices.Repeat([]impl.Book{plain}, impl.MaxBooks+1)}
	numbers := [][]int64{nil, {}, {0}, {2, 1}, {-1, 3}, {1, 2, 61}, {math.MinInt64, math.MaxInt64}, make([]int64, 20)}
	tables := [][][]int64{nil, {}, {nil}, {{0}}, {{0}, {0}}, {{math.MaxInt64, -1}, {math.MinInt64}}, make([][]int64, 14)}
	singles := []int64{-1, 60, 999, 2000, math.MinInt64, math.MaxInt64}
	texts := []string{"", " ", ",", "60 5000", "1,2,", "60 5000 49", "61", "\xff\x00"}
	var out []onShelves
	for range 700 {
		g := anyOnShelves(r)
		switch r.IntN(16) {
		case 0:
			g.c = pickOf(r, cases...)
		case 1:
			g.d = pickOf(r, cases...)
		case 2:
			g.list = pickOf(r, lists...)
		case 3:
			g.ends = pickOf(r, numbers...)
		case 4:
			g.more = pickOf(r, numbers...)
		case 5:
			g.table = pickOf(r, tables...)
		case 6:
			g.table = changedTable(r, g.table)
		case 7:
			g.n = pickOf(r, singles...)
		case 8:
			g.m = pickOf(r, singles...)
		case 9:
			g.text = pickOf(r, texts...)
		}
		out = append(out, g)
	}
	return out
}

// roomyShelves returns the same arguments with new slices that have room behind them.
func roomyShelves(g onShelves) onShelves {
	g.c.Heights = withRoom(g.c.Heights, 77)
	g.d.Heights = withRoom(g.d.Heights, 78)
	g.list = withRoom(g.list, bookOf(7, "fil", 1, 1))
	g.ends = withRoom(g.ends, 1)
	g.more = withRoom(g.more, 2)
	table := g.table
	g.table = nil
	for _, numbers := range table {
		g.table = append(g.table, withRoom(numbers, 3))
	}
	g.table = withRoom(g.table, []int64{4, 5})
	return g
}

// wholeShelves returns a copy of all arguments, with all capacity of their slices.
func wholeShelves(g onShelves) onShelves {
	g.c.Heights = whole(g.c.Heights)
	g.d.Heights = whole(g.d.Heights)
	g.list = whole(g.list)
	g.ends = whole(g.ends)
	g.more = whole(g.more)
	g.table = whole(g.table)
	for i, numbers := range g.table {
		g.table[i] = whole(numbers)
	}
	return g
}

// TestPureShelves is of promise 1: no argument is changed or shared with a result, and equal arguments have equal results.
func TestPureShelves(t *testing.T) {
	for _, call := range shelfCalls() {
		for _, g := range manyOnShelves() {
			wantPure(t, call.name, g, roomyShelves, wholeShelves, call.run)
		}
	}
}

// TestListsOfTables is of promise 1: no two lists of a table share memory, not even behind their ends.
func TestListsOfTables(t *testing.T) {
	list, c := readList(t, exampleText), readCase(t, exampleCase)
	table, _ := impl.TableOf(c, list)
	kept := copyTable(table)
	for i := range table {
		spoil([]any{table[i]})
		for j := i + 1; j < len(table); j++ {
			if !slices.Equal(table[j], kept[j]) {
				t.Fatalf("the lists %d and %d share memory", i, j)
			}
		}
		for j := range i {
			if slices.ContainsFunc(table[j], func(n int64) bool { return n != 9 }) {
				t.Fatalf("the lists %d and %d share memory", i, j)
			}
		}
		for j := range table[i] {
			table[i][j] = 9
		}
	}
}

// TestZeroBesideErrorsOfShelves is of promise 1: beside an error all other results are zero values.
func TestZeroBesideErrorsOfShelves(t *testing.T) {
	for _, call := range shelfCalls() {
		if call.hasCode {
			wantZeroBesideErrors(t, call.name, manyOnShelves(), call.run)
		}
	}
}

// TestOrderOfErrors is of promise 1: cases and books that are not valid are told first, and numbers that are no layout behind them.
func TestOrderOfErrors(t *testing.T) {
	good := onShelves{c: impl.Case{Wide: 60, Load: 5000, Heights: []int16{250, 250}}, list: wides(1, 2), ends: []int64{1, 2}, n: -1, m: -1}
	lists := [][]impl.Book{slices.Repeat([]impl.Book{plain}, impl.MaxBooks+1)}
	for _, bad := range booksOutside() {
		lists = append(lists, []impl.Book{bad}, []impl.Book{size(61, 300, 9999), plain, bad})
	}
	for _, call := range shelfCalls() {
		if !ofStock(call) {
			continue
		}
		wantCode := func(name string, g onShelves, want int64) {
			results := call.run(g)
			if c := results[len(results)-1]; c != want {
				t.Errorf("%s, %s: code %v, want %d", call.name, name, c, want)
			}
		}
		for _, ends := range [][]int64{nil, {1, 2}, {2, 1}} {
			g := good
			g.ends = ends
			for _, c := range casesOutside() {
				g.c = c
				wantCode(fmt.Sprint(c), g, impl.ErrInvalid)
			}
			g.c = good.c
			for _, list := range lists {
				g.list = list
				wantCode(fmt.Sprint(list), g, impl.ErrInvalid)
			}
		}
		if call.withLayout {
			for _, ends := range [][]int64{nil, {2}, {1, 2, 2}, {2, 1}, {1, 1}, {-1, 2}, {1, 3}} {
				g := good
				g.ends = ends
				wantCode(fmt.Sprint(ends), g, impl.ErrProof)
			}
		}
	}
}

// TestShelvesReturnForGreatArguments is of promise 1: every function returns for a million elements.
func TestShelvesReturnForGreatArguments(t *testing.T) {
	const many = 1_000_000
	list, c := readList(t, exampleText), readCase(t, exampleCase)
	texts := []string{strings.Repeat("0", many), strings.Repeat("9", many), strings.Repeat(" ", many), strings.Repeat("250 ", many/4),
		strings.Repeat("1,", many/2), "60 5000" + strings.Repeat(" 250", many/4)}
	great := onShelves{c: impl.Case{Wide: 1, Load: 1, Heights: make([]int16, many)}, list: make([]impl.Book, many), ends: make([]int64, many), table: make([][]int64, many), n: math.MinInt64, m: math.MaxInt64}
	great.d = impl.Case{Wide: 1, Load: 1, Heights: slices.Clone(great.c.Heights)}
	great.more = slices.Clone(great.ends)
	great.ends[0] = math.MaxInt64
	valid := great
	valid.c, valid.list = c, list
	for _, call := range shelfCalls() {
		for _, text := range texts {
			great.text = text
			results := call.run(great)
			if call.hasCode && results[len(results)-1] == code(impl.OK) {
				t.Errorf("%s accepts a million elements", call.name)
			}
		}
		call.run(valid)
	}
	wide := append([][]int64{make([]int64, many)}, make([][]int64, 3)...)
	wantResults(t, "wide table", all(impl.CheckTable(c, list, wide)), false, code(impl.OK))
	if !impl.SameCase(great.c, great.d) {
		t.Error("a million equal heights are not the same")
	}
	ends := slices.Repeat([]int64{60}, many/2)
	other := make([]int64, many/2)
	other[len(other)-1] = 60
	wantResults(t, "many shelves", all(impl.MovedBooks(ends, other)), int64(60), code(impl.OK))
}

// TestGreatestCase is of promise 1: what has all limits at once is done as well.
func TestGreatestCase(t *testing.T) {
	c := impl.Case{Wide: 2000, Load: 200000, Heights: slices.Repeat([]int16{1000}, impl.MaxShelves)}
	list := slices.Repeat([]impl.Book{size(1, 50, 1)}, impl.MaxBooks)
	high := slices.Repeat([]int64{60}, impl.MaxShelves)
	wantResults(t, "fewest", all(impl.FewestShelves(c, list)), high, int64(1), code(impl.OK))
	wantResults(t, "least cost", all(impl.LeastCost(c, list)), high, int64(1940*1940), code(impl.OK))
	table, _ := impl.TableOf(c, list)
	wantResults(t, "proved", all(impl.ProvedCost(c, list, table)), int64(1940*1940), code(impl.OK))
}
