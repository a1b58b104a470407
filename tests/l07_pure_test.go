package tests

import (
	"math"
	"math/rand/v2"
	"slices"
	"strings"
	"testing"

	"loop.example/g01326/impl"
)

// inCheck are the arguments from which each call of chapter 7 takes what it needs.
type inCheck struct {
	b                        impl.Book
	label                    string
	catalogue, shelf, wanted []impl.Book
	out, stops               []int64
	start, wide              int64
}

// checkCall is a function of chapter 7 with its arguments chosen; ofShelf tells that it returns ErrInvalid of a shelf.
type checkCall struct {
	name             string
	hasCode, ofShelf bool
	run              func(g inCheck) []any
}

// checkCalls lists all functions of chapter 7.
func checkCalls() []checkCall {
	const yes, no = true, false
	list := []checkCall{
		{"LabelOf", no, no, func(g inCheck) []any { return all(impl.LabelOf(g.b)) }},
		{"CheckLabel", no, no, func(g inCheck) []any { return all(impl.CheckLabel(g.label)) }},
		{"ReadLabel", yes, no, func(g inCheck) []any { return all(impl.ReadLabel(g.label)) }},
		{"NearLabels", yes, no, func(g inCheck) []any { return all(impl.NearLabels(g.label)) }},
		{"SwappedLabels", yes, no, func(g inCheck) []any { return all(impl.SwappedLabels(g.label)) }},
		{"OutOfPlace", yes, yes, func(g inCheck) []any { return all(impl.OutOfPlace(g.shelf)) }},
		{"WithoutBooks", yes, yes, func(g inCheck) []any { return all(impl.WithoutBooks(g.shelf, g.out)) }},
		{"WalkTo", yes, yes, func(g inCheck) []any { return all(impl.WalkTo(g.shelf, g.wanted)) }},
		{"WalkLength", yes, no, func(g inCheck) []any { return all(impl.WalkLength(g.stops, g.start)) }},
		{"ShortestWalk", yes, no, func(g inCheck) []any { return all(impl.ShortestWalk(g.stops, g.start)) }},
		{"HeaviestShelf", yes, yes, func(g inCheck) []any { return all(impl.HeaviestShelf(g.shelf, g.wide)) }},
	}
	for _, call := range stockCalls() {
		list = append(list, checkCall{call.name, yes, yes, func(g inCheck) []any { return call.run(g.catalogue, g.shelf) }})
	}
	return list
}

// anyInCheck returns arguments that often belong together.
func anyInCheck(r *rand.Rand) inCheck {
	g := inCheck{b: anyLabelled(r), start: r.Int64N(1000), wide: 1 + r.Int64N(300), stops: anyStops(r, r.IntN(9), 1000)}
	g.label = slowLabel(g.b)
	g.catalogue, g.shelf = anyStocks(r, 12)
	if r.IntN(2) == 0 && len(g.catalogue) > 0 {
		g.shelf = displaced(r, g.catalogue)
	}
	g.wanted = mixed(r, g.shelf)[:r.IntN(len(g.shelf)+1)]
	g.out, _ = impl.OutOfPlace(g.shelf)
	return g
}

// manyInCheck are arguments of all kinds, valid and not.
func manyInCheck() []inCheck {
	r := newRandom()
	outside := append(listsOutside(), nil)
	labels := []string{"", "513euc014", "513euc013\n", "513EUC013", "513euc01", "513euc004", "\xff\x00", "aaaaaaaaa"}
	numbers := [][]int64{nil, {}, {0}, {0, 0}, {-1}, {1000}, {1, 0}, {0, 60}, {math.MinInt64, math.MaxInt64}, make([]int64, 61)}
	singles := []int64{0, -1, 1, 999, 1000, 6000, 6001, math.MinInt64, math.MaxInt64}
	var out []inCheck
	for range 600 {
		g := anyInCheck(r)
		switch r.IntN(12) {
		case 0:
			g.b = pickOf(r, append(booksOutside(), impl.Book{})...)
		case 1:
			g.label = pickOf(r, labels...)
		case 2:
			g.catalogue = pickOf(r, outside...)
		case 3:
			g.shelf = pickOf(r, outside...)
		case 4:
			g.wanted = pickOf(r, outside...)
		case 5:
			g.out, g.stops = pickOf(r, numbers...), pickOf(r, numbers...)
		case 6:
			g.start, g.wide = pickOf(r, singles...), pickOf(r, singles...)
		case 7:
			g.catalogue = mixed(r, g.catalogue)
		}
		out = append(out, g)
	}
	return out
}

// roomyInCheck returns the same arguments with new slices that have room behind them.
func roomyInCheck(g inCheck) inCheck {
	fill := bookOf(7, "fil", 1, 1)
	g.catalogue, g.shelf, g.wanted = withRoom(g.catalogue, fill), withRoom(g.shelf, fill), withRoom(g.wanted, fill)
	g.out, g.stops = withRoom(g.out, 3), withRoom(g.stops, 3)
	return g
}

// wholeInCheck returns a copy of all arguments, with all capacity of their slices.
func wholeInCheck(g inCheck) inCheck {
	g.catalogue, g.shelf, g.wanted = whole(g.catalogue), whole(g.shelf), whole(g.wanted)
	g.out, g.stops = whole(g.out), whole(g.stops)
	return g
}

// TestPureChecks is of promise 1: no argument is changed or shared with a result, and equal arguments have equal results.
func TestPureChecks(t *testing.T) {
	for _, call := range checkCalls() {
		for _, g := range manyInCheck() {
			wantPure(t, call.name, g, roomyInCheck, wholeInCheck, call.run)
		}
	}
}

// TestOneListTwice is of promise 1: a list may be the catalogue and the shelf at once, or the shelf and what is wanted.
func TestOneListTwice(t *testing.T) {
	list := classed(1, 1, 2, 5)
	for _, call := range stockCalls() {
		wantResults(t, call.name, call.run(list, list), call.run(list, slices.Clone(list))...)
	}
	wantResults(t, "wanted", all(impl.WalkTo(list, list)), []int64{0, 1, 2, 3}, code(impl.OK))
	wantResults(t, "the list", all(list), classed(1, 1, 2, 5))
}

// TestZeroBesideErrorsOfChecks is of promise 1: beside an error all other results are zero values.
func TestZeroBesideErrorsOfChecks(t *testing.T) {
	for _, call := range checkCalls() {
		if call.hasCode {
			wantZeroBesideErrors(t, call.name, manyInCheck(), call.run)
		}
	}
}

// TestInvalidFirstOfChecks is of promise 1: a shelf that is not valid is told ahead of all other errors, and without one.
func TestInvalidFirstOfChecks(t *testing.T) {
	sorted := classed(1, 2, 3)
	for _, call := range checkCalls() {
		for _, shelf := range listsOutside() {
			for _, g := range []inCheck{
				{catalogue: sorted, shelf: shelf, wide: 50},
				{catalogue: classed(2, 1), shelf: shelf, wanted: classed(9), out: []int64{-1}, wide: 0},
				{catalogue: shelf, shelf: shelf, wanted: shelf, out: []int64{99}, wide: math.MaxInt64},
			} {
				if call.ofShelf {
					wantCode(t, call.name, call.run(g), impl.ErrInvalid)
				}
			}
		}
	}
}

// TestNothingToCheck is of promise 1: no books at all are in order.
func TestNothingToCheck(t *testing.T) {
	for _, none := range [][]impl.Book{nil, {}} {
		for _, other := range [][]impl.Book{nil, {}} {
			wantResults(t, "missing", all(impl.MissingBooks(none, other)), []impl.Book(nil), code(impl.OK))
			wantResults(t, "foreign", all(impl.ForeignBooks(none, other)), []impl.Book(nil), code(impl.OK))
			wantResults(t, "same", all(impl.SameStock(none, other)), true, code(impl.OK))
			wantResults(t, "slip", all(impl.OneSlip(none, other)), impl.Move{}, code(impl.ErrNotFound))
			wantResults(t, "swap", all(impl.OneSwap(none, other)), impl.Move{}, code(impl.ErrNotFound))
			wantResults(t, "slips", all(impl.FewestSlips(none, other)), int64(0), code(impl.OK))
			wantResults(t, "places", all(impl.RightPlaces(none, other)), []int64(nil), code(impl.OK))
			wantResults(t, "walk", all(impl.WalkTo(none, other)), []int64(nil), code(impl.OK))
			wantResults(t, "report", all(impl.ReportOf(none, other)), "", code(impl.OK))
		}
		wantResults(t, "out of place", all(impl.OutOfPlace(none)), []int64(nil), code(impl.OK))
		wantResults(t, "without", all(impl.WithoutBooks(none, nil)), []impl.Book(nil), code(impl.OK))
	}
}

// TestChecksReturnForGreatArguments is of promise 1: every function returns for a million elements.
func TestChecksReturnForGreatArguments(t *testing.T) {
	const million = 1_000_000
	great := slices.Repeat([]impl.Book{plain}, million)
	falling := make([]int64, million)
	for i := range falling {
		falling[i] = int64(999 - i%1000)
	}
	small := classed(1, 2)
	many := []inCheck{
		{catalogue: great, shelf: great, wanted: great, out: falling, stops: falling, wide: 6000, start: 500},
		{catalogue: small, shelf: make([]impl.Book, million), wanted: small, out: make([]int64, million), stops: make([]int64, million), wide: math.MaxInt64, start: math.MaxInt64},
		{catalogue: great, shelf: slices.Clone(great), wanted: small, stops: slices.Repeat([]int64{math.MinInt64}, million), wide: math.MinInt64, start: math.MinInt64},
	}
	for i, text := range []string{strings.Repeat("0", million), strings.Repeat("513euc013", million/9), "513euc013" + strings.Repeat(" ", million)} {
		many[i].label = text
	}
	for _, call := range checkCalls() {
		for _, g := range many {
			results := call.run(g)
			if call.hasCode && results[len(results)-1] == code(impl.OK) {
				t.Errorf("%s accepts a million elements", call.name)
			}
		}
	}
	wantCode(t, "a million stops", all(impl.ShortestWalk(falling, 0)), impl.ErrLimit)
	wantCode(t, "a million stops", all(impl.WalkLength(falling, 0)), impl.ErrLimit)
	wantCode(t, "a million indices", all(impl.WithoutBooks(small, falling)), impl.ErrRange)
	wantCode(t, "a million wanted", all(impl.WalkTo(small, great)), impl.ErrInvalid)
}
