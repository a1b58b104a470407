package tests

import (
	"fmt"
	"math"
	"math/rand/v2"
	"slices"
	"strings"
	"testing"

	"loop.example/g01326/impl"
)

// outOfOrder are the arguments from which each call of chapter 3 takes what it needs.
type outOfOrder struct {
	list   []impl.Book
	m      impl.Move
	b      impl.Block
	moves  []impl.Move
	labels []int64
	text   string
}

// sortCall is a function of chapter 3 with its arguments chosen; ofList tells that it has a list of books, and so ErrInvalid.
type sortCall struct {
	name            string
	hasCode, ofList bool
	run             func(g outOfOrder) []any
}

// sortCalls lists all functions of chapter 3.
func sortCalls() []sortCall {
	return []sortCall{
		{"KeptBooks", true, true, func(g outOfOrder) []any { return all(impl.KeptBooks(g.list)) }},
		{"LeastMoves", true, true, func(g outOfOrder) []any { return all(impl.LeastMoves(g.list)) }},
		{"MoveBook", true, true, func(g outOfOrder) []any { return all(impl.MoveBook(g.list, g.m)) }},
		{"MoveAll", true, true, func(g outOfOrder) []any { return all(impl.MoveAll(g.list, g.moves)) }},
		{"MovesFor", true, true, func(g outOfOrder) []any { return all(impl.MovesFor(g.list)) }},
		{"CheckMoves", true, true, func(g outOfOrder) []any { return all(impl.CheckMoves(g.list, g.moves)) }},
		{"LabelsOf", true, true, func(g outOfOrder) []any { return all(impl.LabelsOf(g.list)) }},
		{"LabelBound", true, true, func(g outOfOrder) []any { return all(impl.LabelBound(g.list, g.labels)) }},
		{"BreaksOf", true, true, func(g outOfOrder) []any { return all(impl.BreaksOf(g.list)) }},
		{"MoveBlock", true, true, func(g outOfOrder) []any { return all(impl.MoveBlock(g.list, g.b)) }},
		{"LeastBlocks", true, true, func(g outOfOrder) []any { return all(impl.LeastBlocks(g.list)) }},
		{"BlocksFor", true, true, func(g outOfOrder) []any { return all(impl.BlocksFor(g.list)) }},
		{"PassesOf", true, true, func(g outOfOrder) []any { return all(impl.PassesOf(g.list)) }},
		{"PassList", true, true, func(g outOfOrder) []any { return all(impl.PassList(g.list)) }},
		{"LeastSwaps", true, true, func(g outOfOrder) []any { return all(impl.LeastSwaps(g.list)) }},
		{"SwapsFor", true, true, func(g outOfOrder) []any { return all(impl.SwapsFor(g.list)) }},
		{"SwapAll", true, true, func(g outOfOrder) []any { return all(impl.SwapAll(g.list, g.moves)) }},
		{"MovesText", false, false, func(g outOfOrder) []any { return all(impl.MovesText(g.moves)) }},
		{"ReadMoves", true, false, func(g outOfOrder) []any { return all(impl.ReadMoves(g.text)) }},
	}
}

// anyOutOfOrder returns arguments that belong together.
func anyOutOfOrder(r *rand.Rand) outOfOrder {
	g := outOfOrder{list: anyBooks(r, pickOf(r, 1, 2, 3, 4, 5, 6, 7, 20, 60))}
	count := len(g.list)
	g.m = impl.Move{From: int16(r.IntN(count)), To: int16(r.IntN(count))}
	g.b.Count = 1 + int16(r.IntN(count))
	g.b.From = int16(r.IntN(count - int(g.b.Count) + 1))
	g.b.To = int16(r.IntN(count - int(g.b.Count) + 1))
	g.moves, _ = impl.MovesFor(g.list)
	g.labels, _ = impl.LabelsOf(g.list)
	g.text = impl.MovesText(g.moves)
	return g
}

// manyOutOfOrder are arguments of all kinds, valid and not.
func manyOutOfOrder() []outOfOrder {
	r := newRandom()
	lists := append(listsOutside(), nil, []impl.Book{}, []impl.Book{plain})
	far := farNumbers()
	moves := [][]impl.Move{nil, {}, {{}}, {{From: -1}}, {{}, {To: 100}}, make([]impl.Move, impl.MaxMoves), make([]impl.Move, impl.MaxMoves+1)}
	labels := [][]int64{nil, {}, {1}, {1, 1}, make([]int64, 60), {math.MinInt64, math.MaxInt64}}
	texts := []string{"", " ", ">", "0>1 ", "00>1", "0>100", "\xff\x00"}
	var out []outOfOrder
	for range 250 {
		g := anyOutOfOrder(r)
		switch r.IntN(9) {
		case 0:
			g.list = pickOf(r, lists...)
		case 1:
			g.m = impl.Move{From: pickOf(r, far...), To: g.m.To}
			g.b.From = pickOf(r, far...)
		case 2:
			g.m = impl.Move{From: g.m.From, To: pickOf(r, far...)}
			g.b.To = pickOf(r, far...)
		case 3:
			g.b.Count = pickOf(r, append(far, 0)...)
		case 4:
			g.moves = pickOf(r, moves...)
		case 5:
			g.labels = pickOf(r, labels...)
		case 6:
			g.text = pickOf(r, texts...)
		}
		out = append(out, g)
	}
	return out
}

// roomySorting returns the same arguments with new slices that have room behind them.
func roomySorting(g outOfOrder) outOfOrder {
	g.list = withRoom(g.list, bookOf(7, "fil", 1, 1))
	g.moves = withRoom(g.moves, impl.Move{From: 1, To: 2})
	g.labels = withRoom(g.labels, 3)
	return g
}

// wholeSorting returns a copy of all arguments, with all capacity of their slices.
func wholeSorting(g outOfOrder) outOfOrder {
	g.list = whole(g.list)
	g.moves = whole(g.moves)
	g.labels = whole(g.labels)
	return g
}

// TestPureSorting is of promise 1: no argument is changed or shared with a result, and equal arguments have equal results.
func TestPureSorting(t *testing.T) {
	for _, call := range sortCalls() {
		for _, g := range manyOutOfOrder() {
			wantPure(t, call.name, g, roomySorting, wholeSorting, call.run)
		}
	}
}

// TestZeroBesideErrorsOfSorting is of promise 1: beside an error all other results are zero values.
func TestZeroBesideErrorsOfSorting(t *testing.T) {
	for _, call := range sortCalls() {
		if call.hasCode {
			wantZeroBesideErrors(t, call.name, manyOutOfOrder(), call.run)
		}
	}
}

// TestInvalidFirstOfSorting is of promise 1: a list that is not valid is told ahead of all other errors, and without one.
func TestInvalidFirstOfSorting(t *testing.T) {
	for _, call := range sortCalls() {
		if !call.ofList {
			continue
		}
		for _, list := range listsOutside() {
			for _, g := range []outOfOrder{
				{list: list, b: impl.Block{Count: 1}, labels: make([]int64, len(list))},
				{list: list, m: impl.Move{From: -1}, moves: []impl.Move{{From: -1}}},
				{list: list, m: impl.Move{To: 99}, b: impl.Block{Count: 99}, moves: make([]impl.Move, impl.MaxMoves+1)},
			} {
				results := call.run(g)
				if c := results[len(results)-1]; c != code(impl.ErrInvalid) {
					t.Errorf("%s of %v: code %v", call.name, g, c)
				}
			}
		}
	}
}

// TestNothingToSort is of promise 1: no books, and one book, are sorted already.
func TestNothingToSort(t *testing.T) {
	for _, list := range [][]impl.Book{nil, {}, {plain}} {
		count := int64(len(list))
		name := fmt.Sprint(count, " books")
		kept, passes := make([]int64, count), slices.Repeat([]int64{1}, int(count))
		zero := code(0)
		wantResults(t, name, all(impl.KeptBooks(list)), kept, code(impl.OK))
		wantResults(t, name, all(impl.LabelsOf(list)), passes, code(impl.OK))
		wantResults(t, name, all(impl.PassList(list)), passes, code(impl.OK))
		wantResults(t, name, all(impl.PassesOf(list)), count, code(impl.OK))
		wantResults(t, name, all(impl.LabelBound(list, passes)), zero, code(impl.OK))
		wantResults(t, name, all(impl.LeastMoves(list)), zero, code(impl.OK))
		wantResults(t, name, all(impl.LeastBlocks(list)), zero, code(impl.OK))
		wantResults(t, name, all(impl.LeastSwaps(list)), zero, code(impl.OK))
		wantResults(t, name, all(impl.BreaksOf(list)), zero, code(impl.OK))
		wantResults(t, name, all(impl.MovesFor(list)), []impl.Move(nil), code(impl.OK))
		wantResults(t, name, all(impl.SwapsFor(list)), []impl.Move(nil), code(impl.OK))
		wantResults(t, name, all(impl.BlocksFor(list)), []impl.Block(nil), code(impl.OK))
		wantResults(t, name, all(impl.MoveAll(list, nil)), list, code(impl.OK))
		wantResults(t, name, all(impl.SwapAll(list, nil)), list, code(impl.OK))
	}
}

// TestSortingReturnsForGreatArguments is of promise 1: every function returns for a million elements.
func TestSortingReturnsForGreatArguments(t *testing.T) {
	const many = 1_000_000
	texts := []string{strings.Repeat("0", many), strings.Repeat("9", many), strings.Repeat(" ", many), strings.Repeat("0>1 ", many/4), strings.Repeat(">", many)}
	great := outOfOrder{list: make([]impl.Book, many), moves: make([]impl.Move, many), labels: make([]int64, many)}
	great.m = impl.Move{From: math.MinInt16, To: math.MaxInt16}
	great.b = impl.Block{From: math.MaxInt16, Count: math.MaxInt16, To: math.MaxInt16}
	short := great
	short.list = sortingExample()
	for _, call := range sortCalls() {
		for _, text := range texts {
			great.text = text
			results := call.run(great)
			if call.hasCode && results[len(results)-1] == code(impl.OK) {
				t.Errorf("%s accepts a million elements", call.name)
			}
		}
		call.run(short)
	}
	wantResults(t, "a million moves", all(impl.MoveAll(short.list, short.moves)), []impl.Book(nil), code(impl.ErrLimit))
	wantResults(t, "a million swaps", all(impl.SwapAll(short.list, short.moves)), []impl.Book(nil), code(impl.ErrLimit))
	wantResults(t, "a million labels", all(impl.LabelBound(short.list, short.labels)), int64(0), code(impl.ErrRange))
	wantResults(t, "the text of a million moves", all(impl.MovesText(short.moves)), "")
}

// TestGreatestSorting is of promise 1: what has all limits at once is done as well.
func TestGreatestSorting(t *testing.T) {
	var falling []impl.Book
	for i := range impl.MaxBooks {
		falling = append(falling, bookOf(int16(999-i), "zzz", 99, 9999))
	}
	moves, c := impl.MovesFor(falling)
	if c != impl.OK || len(moves) != impl.MaxBooks-1 || moves[58] != (impl.Move{From: 59, To: 0}) {
		t.Errorf("code %d: %v", c, moves)
	}
	rising := slices.Clone(falling)
	slices.Reverse(rising)
	wantResults(t, "moved", all(impl.MoveAll(falling, moves)), rising, code(impl.OK))
	swaps, c := impl.SwapsFor(falling)
	if c != impl.OK || len(swaps) != impl.MaxBooks/2 || swaps[29] != (impl.Move{From: 29, To: 30}) {
		t.Errorf("code %d: %v", c, swaps)
	}
	wantResults(t, "swapped", all(impl.SwapAll(falling, swaps)), rising, code(impl.OK))
	wantResults(t, "one label", all(impl.LabelBound(falling, make([]int64, impl.MaxBooks))), int64(59), code(impl.OK))
	wantResults(t, "breaks", all(impl.BreaksOf(falling)), int64(60), code(impl.OK))
}
