package tests

import (
	"fmt"
	"math"
	"math/rand/v2"
	"slices"
	"strings"
	"testing"

	"loop.example/g01326/impl"
)

// onPegs are the arguments from which each call of chapter 4 takes what it needs.
type onPegs struct {
	p                impl.Pegs
	heights, shelves []int64
	list             []impl.Book
	b                impl.Book
	high, count      int64
	wide, load       int64
	text             string
}

// pegCall is a function of chapter 4 with its arguments chosen. ofPegs, ofHeights and ofList tell of what it returns ErrInvalid, ofWide that it has a width.
type pegCall struct {
	name                              string
	hasCode                           bool
	ofPegs, ofHeights, ofList, ofWide bool
	run                               func(g onPegs) []any
}

// pegCalls lists all functions of chapter 4.
func pegCalls() []pegCall {
	const yes, no = true, false
	return []pegCall{
		{"ValidPegs", no, no, no, no, no, func(g onPegs) []any { return all(impl.ValidPegs(g.p)) }},
		{"ValidHeights", no, no, no, no, no, func(g onPegs) []any { return all(impl.ValidHeights(g.p, g.heights)) }},
		{"PegFor", yes, yes, no, no, no, func(g onPegs) []any { return all(impl.PegFor(g.p, g.high)) }},
		{"HeightsOf", yes, yes, no, yes, no, func(g onPegs) []any { return all(impl.HeightsOf(g.p, g.list)) }},
		{"HeightFor", yes, yes, yes, no, no, func(g onPegs) []any { return all(impl.HeightFor(g.p, g.heights, g.b)) }},
		{"GroupBooks", yes, yes, yes, yes, no, func(g onPegs) []any { return all(impl.GroupBooks(g.p, g.heights, g.list)) }},
		{"WasteOf", yes, yes, yes, yes, no, func(g onPegs) []any { return all(impl.WasteOf(g.p, g.heights, g.list)) }},
		{"BestHeights", yes, yes, no, yes, no, func(g onPegs) []any { return all(impl.BestHeights(g.p, g.list, g.count)) }},
		{"AddHeight", yes, yes, yes, yes, no, func(g onPegs) []any { return all(impl.AddHeight(g.p, g.heights, g.list)) }},
		{"ShelvesNeeded", yes, yes, yes, yes, yes, func(g onPegs) []any { return all(impl.ShelvesNeeded(g.p, g.heights, g.list, g.wide)) }},
		{"ShelvesBound", yes, yes, yes, yes, yes, func(g onPegs) []any { return all(impl.ShelvesBound(g.p, g.heights, g.list, g.wide)) }},
		{"TallOf", yes, yes, yes, no, no, func(g onPegs) []any { return all(impl.TallOf(g.p, g.heights, g.shelves)) }},
		{"LowestCase", yes, yes, no, yes, yes, func(g onPegs) []any { return all(impl.LowestCase(g.p, g.list, g.wide)) }},
		{"SplitBooks", yes, no, no, yes, no, func(g onPegs) []any { return all(impl.SplitBooks(g.list, g.high)) }},
		{"CaseFrom", yes, yes, yes, no, yes, func(g onPegs) []any { return all(impl.CaseFrom(g.p, g.heights, g.shelves, g.wide, g.load)) }},
		{"HeightsText", no, no, no, no, no, func(g onPegs) []any { return all(impl.HeightsText(g.p, g.heights)) }},
		{"ReadHeights", yes, no, no, no, no, func(g onPegs) []any { return all(impl.ReadHeights(g.text)) }},
	}
}

// anyOnPegs returns arguments that often belong together.
func anyOnPegs(r *rand.Rand) onPegs {
	g := onPegs{p: anyPegs(r), list: anyHighBooks(r, r.IntN(12), 8), b: size(3, 100+int16(r.IntN(99)), 10)}
	g.heights = anyHeights(r, g.p, 1+r.IntN(impl.MaxHeights))
	g.shelves = shelfNumbers(r, g.heights, 3)
	g.high, g.count = int64(r.IntN(400)), 1+int64(r.IntN(4))
	g.wide, g.load = 3+int64(r.IntN(9)), 1+int64(r.IntN(5000))
	g.text = impl.HeightsText(g.p, g.heights)
	return g
}

// manyOnPegs are arguments of all kinds, valid and not.
func manyOnPegs() []onPegs {
	r := newRandom()
	lists := append(listsOutside(), nil, []impl.Book{}, slices.Repeat([]impl.Book{plain}, impl.MaxBooks))
	heights := append(heightsOutside(), heightsInside()...)
	shelves := [][]int64{nil, {}, {0}, {1, 2}, {-1, 3}, {61}, {13, 13}, {math.MinInt64, math.MaxInt64}, make([]int64, 6)}
	singles := []int64{0, -1, 1001, 2000, 2001, 200001, math.MinInt64, math.MaxInt64}
	texts := []string{"", " ", "200 20 10", "200 20 10 ", "200 20 10 201", "0200 20 10 200", "\xff\x00"}
	var out []onPegs
	for range 800 {
		g := anyOnPegs(r)
		switch r.IntN(16) {
		case 0:
			g.p = pickOf(r, pegsOutside()...)
		case 1:
			g.heights = pickOf(r, heights...)
		case 2:
			g.list = pickOf(r, lists...)
		case 3:
			g.b = pickOf(r, booksOutside()...)
		case 4:
			g.shelves = pickOf(r, shelves...)
		case 5:
			g.high, g.count = pickOf(r, singles...), pickOf(r, singles...)
		case 6:
			g.wide = pickOf(r, singles...)
		case 7:
			g.load = pickOf(r, singles...)
		case 8:
			g.text = pickOf(r, texts...)
		case 9:
			g.list, g.wide = nil, 1
		case 10:
			g.wide = 2 // some books are wider
		}
		out = append(out, g)
	}
	return out
}

// roomyPegs returns the same arguments with new slices that have room behind them.
func roomyPegs(g onPegs) onPegs {
	g.heights = withRoom(g.heights, 1)
	g.shelves = withRoom(g.shelves, 2)
	g.list = withRoom(g.list, bookOf(7, "fil", 1, 1))
	return g
}

// wholePegs returns a copy of all arguments, with all capacity of their slices.
func wholePegs(g onPegs) onPegs {
	g.heights = whole(g.heights)
	g.shelves = whole(g.shelves)
	g.list = whole(g.list)
	return g
}

// TestPureHeights is of promise 1: no argument is changed or shared with a result, and equal arguments have equal results.
func TestPureHeights(t *testing.T) {
	for _, call := range pegCalls() {
		for _, g := range manyOnPegs() {
			wantPure(t, call.name, g, roomyPegs, wholePegs, call.run)
		}
	}
}

// TestPartsOfResults is of promise 1: no two lists of one result share memory, not even behind their ends.
func TestPartsOfResults(t *testing.T) {
	list := highs(100, 60, 100, 60, 80, 100, 60)
	groups, _ := impl.GroupBooks(tenths, []int64{60, 70, 80, 100}, list)
	for i, want := range [][]int64{{1, 3, 6}, nil, {4}, {0, 2, 5}} {
		if !slices.Equal(groups[i], want) {
			t.Fatalf("group %d is %v, want %v", i, groups[i], want)
		}
		for j := range groups[i] {
			groups[i][j] = 9
		}
		spoil([]any{groups[i]})
	}
	low, others, _ := impl.SplitBooks(list, 80)
	spoil([]any{low})
	if !slices.Equal(others, highs(100, 100, 100)) {
		t.Errorf("both parts share memory: %v", others)
	}
	low, others, _ = impl.SplitBooks(list, 80)
	spoil([]any{others})
	if !slices.Equal(low, highs(60, 60, 80, 60)) {
		t.Errorf("both parts share memory: %v", low)
	}
}

// TestZeroBesideErrorsOfHeights is of promise 1: beside an error all other results are zero values.
func TestZeroBesideErrorsOfHeights(t *testing.T) {
	for _, call := range pegCalls() {
		if call.hasCode {
			wantZeroBesideErrors(t, call.name, manyOnPegs(), call.run)
		}
	}
}

// TestOrderOfErrorsOfHeights is of promise 1: pegs, heights and books that are not valid are told first, and widths behind them, ahead of all others.
func TestOrderOfErrorsOfHeights(t *testing.T) {
	// All but pegs, heights and books is wrong in both, and so is that books are higher than all heights, and wider than wide.
	base := onPegs{p: examplePegs, heights: []int64{200, 220}, shelves: []int64{-1}, list: sized([2]int16{100, 400}), b: size(100, 400, 1), high: -1, count: 0, wide: 0, load: 0}
	full := base
	full.heights, full.shelves, full.high, full.count = []int64{200, 220, 240, 260, 280, 300}, nil, 1001, 7
	for _, call := range pegCalls() {
		wantCode := func(name string, g onPegs, want int64) {
			t.Helper()
			results := call.run(g)
			if c := results[len(results)-1]; c != want {
				t.Errorf("%s, %s: code %v, want %d", call.name, name, c, want)
			}
		}
		for _, good := range []onPegs{base, full} {
			for _, p := range pegsOutside() {
				g := good
				g.p = p
				if call.ofPegs {
					wantCode(fmt.Sprint(p), g, impl.ErrInvalid)
				}
			}
			for _, heights := range heightsOutside() {
				g := good
				g.heights = heights
				if call.ofHeights {
					wantCode(fmt.Sprint(heights), g, impl.ErrInvalid)
				}
			}
			for _, list := range listsOutside() {
				g := good
				g.list = list
				if call.ofList {
					wantCode(fmt.Sprint(list), g, impl.ErrInvalid)
				}
			}
			if call.ofWide {
				wantCode("width", good, impl.ErrRange)
			}
		}
	}
}

// TestHeightsReturnForGreatArguments is of promise 1: every function returns for a million elements.
func TestHeightsReturnForGreatArguments(t *testing.T) {
	const many = 1_000_000
	texts := []string{strings.Repeat("0", many), strings.Repeat("9", many), strings.Repeat(" ", many), strings.Repeat("200 ", many/4), "200 20 10" + strings.Repeat(" 200", many/4)}
	great := onPegs{p: examplePegs, heights: make([]int64, many), shelves: make([]int64, many), list: make([]impl.Book, many), b: impl.Book{Class: math.MinInt16}}
	great.high, great.count, great.wide, great.load = math.MaxInt64, math.MinInt64, math.MinInt64, math.MaxInt64
	for i := range great.heights {
		great.heights[i] = int64(200 + 20*i)
	}
	valid := great
	valid.heights, valid.list, valid.wide, valid.load = []int64{200, 400}, readList(t, exampleText), 100, 1
	for _, call := range pegCalls() {
		for _, text := range texts {
			great.text = text
			results := call.run(great)
			if call.hasCode && results[len(results)-1] == code(impl.OK) {
				t.Errorf("%s accepts a million elements", call.name)
			}
		}
		call.run(valid)
	}
	wantResults(t, "a million heights", all(impl.ValidHeights(great.p, great.heights)), false)
	wantResults(t, "their text", all(impl.HeightsText(great.p, great.heights)), "")
	wantResults(t, "a million shelves", all(impl.TallOf(valid.p, valid.heights, valid.shelves)), int64(0), code(impl.ErrRange))
	wantResults(t, "a case of them", all(impl.CaseFrom(valid.p, valid.heights, valid.shelves, valid.wide, valid.load)), impl.Case{}, code(impl.ErrRange))
}

// TestGreatestHeights is of promise 1: what has all limits at once is done as well.
func TestGreatestHeights(t *testing.T) {
	ones := impl.Pegs{Low: 50, Step: 1, Board: 100}
	var list []impl.Book
	for i := range impl.MaxBooks {
		list = append(list, size(100, int16(400-i), 9999))
	}
	six := []int64{350, 360, 370, 380, 390, 400}
	wantResults(t, "best", all(impl.BestHeights(ones, list, 6)), six, int64(6*100*45), code(impl.OK))
	wantResults(t, "shelves", all(impl.ShelvesNeeded(ones, six, list, 100)), slices.Repeat([]int64{10}, 6), code(impl.OK))
	wantResults(t, "bound", all(impl.ShelvesBound(ones, six, list, 1000)), slices.Repeat([]int64{1}, 6), code(impl.OK))
	wantResults(t, "lowest", all(impl.LowestCase(ones, list, 100)), six, int64(10*(2250+600)+100), code(impl.OK))
	// Each of the four heights has 15 books; one more parts those of the first one into 7 and 8, or 8 and 7, which is as good.
	wantResults(t, "add", all(impl.AddHeight(ones, []int64{355, 370, 385, 400}, list)), int64(347), int64(100*(7*6/2+8*7/2+3*105)), code(impl.OK))
	c, cd := impl.CaseFrom(ones, []int64{400, 1000}, []int64{6, 6}, 2000, 200000)
	wantResults(t, "case", all(impl.CaseText(c), cd), "2000 200000"+strings.Repeat(" 1000", 6)+strings.Repeat(" 400", 6), code(impl.OK))
}
