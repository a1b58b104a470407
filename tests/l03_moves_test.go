package tests

import (
	"fmt"
	"math"
	"slices"
	"testing"

	"loop.example/g01326/impl"
)

func TestSortingExample(t *testing.T) {
	list := sortingExample()
	wantResults(t, "kept", all(impl.KeptBooks(list)), []int64{1, 2, 3}, code(impl.OK))
	wantResults(t, "least", all(impl.LeastMoves(list)), int64(1), code(impl.OK))
	moves, c := impl.MovesFor(list)
	wantResults(t, "moves", all(impl.MovesText(moves), c), "0>2", code(impl.OK))
	wantResults(t, "labels", all(impl.LabelsOf(list)), []int64{1, 1, 2, 3}, code(impl.OK))
	wantResults(t, "bound", all(impl.LabelBound(list, []int64{1, 1, 2, 3})), int64(1), code(impl.OK))
	wantResults(t, "breaks", all(impl.BreaksOf(list)), int64(3), code(impl.OK))
	wantResults(t, "least blocks", all(impl.LeastBlocks(list)), int64(1), code(impl.OK))
	wantResults(t, "blocks", all(impl.BlocksFor(list)), []impl.Block{{From: 0, Count: 1, To: 2}}, code(impl.OK))
	wantResults(t, "passes", all(impl.PassesOf(list)), int64(2), code(impl.OK))
	wantResults(t, "pass list", all(impl.PassList(list)), []int64{2, 1, 1, 2}, code(impl.OK))
	wantResults(t, "least swaps", all(impl.LeastSwaps(list)), int64(2), code(impl.OK))
	swaps, c := impl.SwapsFor(list)
	wantResults(t, "swaps", all(impl.MovesText(swaps), c), "0>1 1>2", code(impl.OK))
	sorted := classed(100, 200, 300, 400)
	wantResults(t, "moved", all(impl.MoveAll(list, moves)), sorted, code(impl.OK))
	wantResults(t, "swapped", all(impl.SwapAll(list, swaps)), sorted, code(impl.OK))
	if impl.MaxBlock != 6 || impl.MaxMoves != 200 {
		t.Errorf("MaxBlock %d, MaxMoves %d", impl.MaxBlock, impl.MaxMoves)
	}
}

// wantKept checks all that is told of the books that can be kept in a list of few books.
func wantKept(t *testing.T, list []impl.Book) {
	t.Helper()
	kept := slowKept(list)
	name := fmt.Sprint(" of ", list)
	wantResults(t, "kept"+name, all(impl.KeptBooks(list)), kept, code(impl.OK))
	wantResults(t, "least"+name, all(impl.LeastMoves(list)), int64(len(list)-len(kept)), code(impl.OK))
	wantResults(t, "labels"+name, all(impl.LabelsOf(list)), slowLabels(list), code(impl.OK))
	wantResults(t, "moves"+name, all(impl.MovesFor(list)), slowMoves(list), code(impl.OK))
}

// TestKeptBooks compares kept books, labels and moves with all sets of books that can be kept.
func TestKeptBooks(t *testing.T) {
	for _, list := range allPatterns(4) {
		wantKept(t, list)
	}
	r := newRandom()
	for round := range 400 {
		var list []impl.Book
		for range round % 11 {
			list = append(list, bookOf(int16(r.IntN(8)), "abc", 1, 1+int16(r.IntN(2))))
		}
		wantKept(t, list)
		wantKept(t, anyBooks(r, round%9))
	}
}

func TestSeveralKept(t *testing.T) {
	type asked struct {
		classes []int16
		kept    []int64
		moves   string
	}
	for _, a := range []asked{
		{nil, nil, ""},
		{[]int16{5}, []int64{0}, ""},
		{[]int16{1, 2, 3}, []int64{0, 1, 2}, ""},
		{[]int16{5, 5, 5}, []int64{0, 1, 2}, ""},
		{[]int16{2, 1}, []int64{0}, "1>0"},                           // 0 or 1
		{[]int16{3, 2, 1}, []int64{0}, "1>0 2>0"},                    // any one
		{[]int16{3, 4, 1, 2}, []int64{0, 1}, "2>0 3>1"},              // 0 and 1, or 2 and 3
		{[]int16{1, 4, 2, 3, 3}, []int64{0, 2, 3, 4}, "1>4"},         // put back at the end
		{[]int16{2, 3, 4, 1}, []int64{0, 1, 2}, "3>0"},               // put back at the index 0
		{[]int16{1, 3, 2, 4}, []int64{0, 1, 3}, "2>1"},               // 1 or 2
		{[]int16{2, 2, 1, 1, 3}, []int64{0, 1, 4}, "2>0 3>1"},        // equal ones stay as they were
		{[]int16{9, 1, 1, 5, 1}, []int64{1, 2, 3}, "0>3 4>2"},        // put back behind equal ones, with others still behind
		{[]int16{7, 8, 1, 2, 3, 7}, []int64{2, 3, 4, 5}, "0>5 0>5"},  // put back behind the equal one
		{[]int16{4, 1, 4, 2, 4, 3}, []int64{0, 2, 4}, "1>0 3>1 5>2"}, // 0, 2 and 4, or 1, 3 and 5
		{[]int16{4, 1, 5, 2, 6, 3, 3}, []int64{1, 3, 5, 6}, "0>6 1>6 2>6"},
		{[]int16{4, 3, 2, 1, 5, 6}, []int64{0, 4, 5}, "1>0 2>0 3>0"},
	} {
		list := weighed(classed(a.classes...))
		wantResults(t, fmt.Sprint(a.classes), all(impl.KeptBooks(list)), a.kept, code(impl.OK))
		moves, c := impl.MovesFor(list)
		wantResults(t, fmt.Sprint("moves of ", a.classes), all(impl.MovesText(moves), c), a.moves, code(impl.OK))
	}
}

// TestKeptByAllFields has books that differ only in the mark, in the volume, or in what does not count.
func TestKeptByAllFields(t *testing.T) {
	marks := []impl.Book{bookOf(5, "abd", 1, 1), bookOf(5, "abc", 2, 1), bookOf(5, "acc", 1, 1)}
	wantResults(t, "marks", all(impl.KeptBooks(marks)), []int64{0, 2}, code(impl.OK))
	volumes := []impl.Book{bookOf(5, "abc", 3, 1), bookOf(5, "abc", 1, 1), bookOf(5, "abc", 2, 1)}
	wantResults(t, "volumes", all(impl.KeptBooks(volumes)), []int64{1, 2}, code(impl.OK))
	weights := []impl.Book{bookOf(5, "abc", 1, 9), bookOf(5, "abc", 1, 5), bookOf(5, "abc", 1, 1)}
	weights[1].Wide, weights[2].High = 1, 50
	wantResults(t, "weights", all(impl.KeptBooks(weights)), []int64{0, 1, 2}, code(impl.OK))
}

// TestMovesSort is of promise 7: a list that is moved as told is sorted, with the least moves, which its labels prove.
func TestMovesSort(t *testing.T) {
	r := newRandom()
	for round := range 500 {
		list := anyBooks(r, round%(impl.MaxBooks+1))
		if round%3 == 0 {
			for i := range list {
				list[i].Class = int16(r.IntN(1000))
			}
		}
		moves, c := impl.MovesFor(list)
		least, leastCode := impl.LeastMoves(list)
		if c != impl.OK || leastCode != impl.OK || int64(len(moves)) != least {
			t.Fatalf("codes %d and %d: %d moves, and the least are %d", c, leastCode, len(moves), least)
		}
		moved, c := impl.MoveAll(list, moves)
		if c != impl.OK {
			t.Fatalf("code %d: %v of %v", c, moves, list)
		}
		wantSorted(t, moved, list)
		wantResults(t, "check", all(impl.CheckMoves(list, moves)), true, code(impl.OK))
		if least > 0 {
			wantResults(t, "check of fewer", all(impl.CheckMoves(list, moves[:least-1])), false, code(impl.OK))
		}
		labels, c := impl.LabelsOf(list)
		if c != impl.OK {
			t.Fatalf("labels of %v: code %d", list, c)
		}
		wantResults(t, "bound", all(impl.LabelBound(list, labels)), least, code(impl.OK))
		wantProofBelow(t, list, anyProof(r, list), least)
	}
}

// wantProofBelow checks that labels are a proof, and prove no more than the least number of moves.
func wantProofBelow(t *testing.T, list []impl.Book, labels []int64, least int64) {
	t.Helper()
	bound, c := impl.LabelBound(list, labels)
	want, wantCode := slowBound(list, labels)
	if c != impl.OK || wantCode != impl.OK || bound != want || bound > least {
		t.Errorf("codes %d and %d: the bound is %d, not %d, and %d moves are enough", c, wantCode, bound, want, least)
	}
}

// TestNoFewerMoves is of promise 7: a search of all moves finds no fewer that sort a list.
func TestNoFewerMoves(t *testing.T) {
	lists := allPatterns(4)
	r := newRandom()
	for range 200 {
		lists = append(lists, pickOf(r, patterns(5)...))
	}
	for range 8 {
		lists = append(lists, classed(5, 2, 4, 1, 3, 0)[:5+r.IntN(2)])
	}
	for _, list := range lists {
		wantResults(t, fmt.Sprint("least of ", list), all(impl.LeastMoves(list)), stepsToSorted(list, 1), code(impl.OK))
	}
}

func TestMoveBook(t *testing.T) {
	r := newRandom()
	for count := range 6 {
		list := weighed(anyBooks(r, count))
		numbers := farNumbers()
		for n := -2; n <= count+2; n++ {
			numbers = append(numbers, int16(n))
		}
		for _, from := range numbers {
			for _, to := range numbers {
				want, can := slowPut(list, int(from), 1, int(to))
				wantCode := code(impl.OK)
				if !can {
					wantCode = impl.ErrRange
				}
				m := impl.Move{From: from, To: to}
				wantResults(t, fmt.Sprint(m, " of ", count), all(impl.MoveBook(list, m)), want, wantCode)
				wantResults(t, fmt.Sprint(m, " alone of ", count), all(impl.MoveAll(list, []impl.Move{m})), want, wantCode)
			}
		}
	}
}

func TestMoveBookBounds(t *testing.T) {
	list := classed(1, 2, 3, 4)
	wantResults(t, "to the front", all(impl.MoveBook(list, impl.Move{From: 3, To: 0})), classed(4, 1, 2, 3), code(impl.OK))
	wantResults(t, "to the end", all(impl.MoveBook(list, impl.Move{From: 0, To: 3})), classed(2, 3, 4, 1), code(impl.OK))
	wantResults(t, "behind those that move down", all(impl.MoveBook(list, impl.Move{From: 0, To: 1})), classed(2, 1, 3, 4), code(impl.OK))
	wantResults(t, "ahead of those that do not", all(impl.MoveBook(list, impl.Move{From: 2, To: 1})), classed(1, 3, 2, 4), code(impl.OK))
	wantResults(t, "nowhere", all(impl.MoveBook(list, impl.Move{From: 2, To: 2})), list, code(impl.OK))
	wantResults(t, "one book", all(impl.MoveBook(list[:1], impl.Move{})), list[:1], code(impl.OK))
	none := []impl.Book(nil)
	wantResults(t, "one book too far", all(impl.MoveBook(list[:1], impl.Move{To: 1})), none, code(impl.ErrRange))
	wantResults(t, "no books", all(impl.MoveBook(nil, impl.Move{})), none, code(impl.ErrRange))
	wantResults(t, "to outside", all(impl.MoveBook(list, impl.Move{From: 0, To: 4})), none, code(impl.ErrRange))
	wantResults(t, "from outside", all(impl.MoveBook(list, impl.Move{From: 4, To: 0})), none, code(impl.ErrRange))
	full := weighed(slices.Repeat(classed(5), impl.MaxBooks))
	moved := slices.Concat(full[1:], full[:1])
	wantResults(t, "of MaxBooks", all(impl.MoveBook(full, impl.Move{From: 0, To: 59})), moved, code(impl.OK))
	wantResults(t, "of MaxBooks, back", all(impl.MoveBook(moved, impl.Move{From: 59, To: 0})), full, code(impl.OK))
	wantResults(t, "of MaxBooks too far", all(impl.MoveBook(full, impl.Move{From: 0, To: 60})), none, code(impl.ErrRange))
}

func TestMoveAll(t *testing.T) {
	r := newRandom()
	for range 300 {
		list := weighed(anyBooks(r, 1+r.IntN(8)))
		var moves []impl.Move
		want, wantCode := list, code(impl.OK)
		for range r.IntN(6) {
			m := impl.Move{From: int16(r.IntN(len(list))), To: int16(r.IntN(len(list)))}
			if r.IntN(20) == 0 {
				m.To = int16(len(list))
			}
			moves = append(moves, m)
			next, can := slowPut(want, int(m.From), 1, int(m.To))
			if !can {
				want, wantCode = nil, impl.ErrRange
				break
			}
			want = next
		}
		name := fmt.Sprint(moves, " of ", list)
		wantResults(t, name, all(impl.MoveAll(list, moves)), want, wantCode)
		wantResults(t, "check of "+name, all(impl.CheckMoves(list, moves)), wantCode == impl.OK && slowSorted(want), wantCode)
	}
}

func TestMoveAllErrors(t *testing.T) {
	list := classed(2, 3, 1)
	none := []impl.Book(nil)
	most := make([]impl.Move, impl.MaxMoves)
	wantResults(t, "no moves", all(impl.MoveAll(list, nil)), list, code(impl.OK))
	wantResults(t, "no moves of no books", all(impl.MoveAll(nil, nil)), none, code(impl.OK))
	wantResults(t, "check of no moves", all(impl.CheckMoves(list, nil)), false, code(impl.OK))
	wantResults(t, "check of no moves of no books", all(impl.CheckMoves(nil, nil)), true, code(impl.OK))
	wantResults(t, "check of no moves, sorted", all(impl.CheckMoves(classed(1, 1, 2), nil)), true, code(impl.OK))
	turns := slices.Repeat([]impl.Move{{From: 2, To: 0}}, impl.MaxMoves)
	wantResults(t, "200 moves", all(impl.MoveAll(list, turns)), classed(3, 1, 2), code(impl.OK))
	wantResults(t, "check of 199 moves", all(impl.CheckMoves(list, turns[:199])), true, code(impl.OK))
	wantResults(t, "check of 200 moves", all(impl.CheckMoves(list, turns)), false, code(impl.OK))
	outside := append(slices.Clone(most[:199]), impl.Move{From: 3})
	for _, bad := range []struct {
		name  string
		moves []impl.Move
		want  int64
	}{
		{"201 moves", append(most, impl.Move{}), impl.ErrLimit},
		{"the last one outside", outside, impl.ErrRange},
		{"201 moves, one outside", append(outside, impl.Move{}), impl.ErrLimit},
		{"201 moves, the last one outside", append(most, impl.Move{From: 3}), impl.ErrLimit},
		{"the first one outside", []impl.Move{{From: -1}, {}}, impl.ErrRange},
		{"outside, though sorted before", []impl.Move{{From: 2, To: 0}, {From: 0, To: 3}}, impl.ErrRange},
	} {
		wantResults(t, bad.name, all(impl.MoveAll(list, bad.moves)), none, bad.want)
		wantResults(t, "check of "+bad.name, all(impl.CheckMoves(list, bad.moves)), false, bad.want)
		for _, outside := range listsOutside() {
			wantResults(t, bad.name+", not valid", all(impl.MoveAll(outside, bad.moves)), none, code(impl.ErrInvalid))
			wantResults(t, "check of "+bad.name+", not valid", all(impl.CheckMoves(outside, bad.moves)), false, code(impl.ErrInvalid))
		}
	}
	wantResults(t, "of no books", all(impl.MoveAll(nil, most[:1])), none, code(impl.ErrRange))
}

func TestLabelBound(t *testing.T) {
	r := newRandom()
	proofs, others := 0, 0
	for round := range 3000 {
		list := anyBooks(r, round%6)
		var labels []int64
		for range list {
			labels = append(labels, pickOf[int64](r, 0, 1, 2, -1, math.MinInt64, math.MaxInt64))
		}
		if r.IntN(20) == 0 {
			labels = append(labels, 5)
		}
		bound, c := slowBound(list, labels)
		wantResults(t, fmt.Sprint(labels, " of ", list), all(impl.LabelBound(list, labels)), bound, c)
		if c == impl.OK {
			proofs++
		} else {
			others++
		}
	}
	if proofs < 500 || others < 500 {
		t.Errorf("%d proofs, %d that are none", proofs, others)
	}
}

func TestLabelErrors(t *testing.T) {
	list := classed(300, 100, 200, 400)
	type asked struct {
		list   []impl.Book
		labels []int64
		bound  int64
		code   int64
	}
	for _, a := range []asked{
		{list, []int64{1, 1, 2, 3}, 1, impl.OK},
		{list, []int64{-9, -9, 0, math.MaxInt64}, 1, impl.OK},
		{list, []int64{4, 3, 2, 1}, 0, impl.OK},
		{list, []int64{1, 2, 1, 3}, 1, impl.OK},
		{list, []int64{1, 1, 1, 2}, 0, impl.ErrProof}, // 100 and 200 can both be kept
		{list, []int64{1, 2, 2, 3}, 0, impl.ErrProof},
		{list, []int64{1, 1, 1, 1}, 0, impl.ErrProof},
		{list, []int64{1, 2, 3, 1}, 0, impl.ErrProof},
		{list, []int64{1, 1, 2}, 0, impl.ErrRange},
		{list, []int64{1, 1, 1}, 0, impl.ErrRange}, // no proof either
		{list, []int64{1, 1, 2, 3, 4}, 0, impl.ErrRange},
		{list, nil, 0, impl.ErrRange},
		{nil, nil, 0, impl.OK},
		{nil, []int64{1}, 0, impl.ErrRange},
		{list[:1], []int64{7}, 0, impl.OK},
		{classed(5, 5), []int64{1, 1}, 0, impl.ErrProof}, // equal ones can both be kept
		{weighed(classed(5, 5)), []int64{1, 1}, 0, impl.ErrProof},
		{classed(5, 5), []int64{1, 2}, 0, impl.OK},
		{classed(3, 2, 1), []int64{1, 1, 1}, 2, impl.OK},
		{classed(3, 1, 2), []int64{1, 1, 1}, 0, impl.ErrProof},
		{classed(4, 2, 3, 1), []int64{1, 2, 1, 2}, 2, impl.OK},
	} {
		wantResults(t, fmt.Sprint(a.labels, " of ", a.list), all(impl.LabelBound(a.list, a.labels)), a.bound, a.code)
	}
	for _, outside := range listsOutside() {
		wantResults(t, "not valid, no labels", all(impl.LabelBound(outside, nil)), int64(0), code(impl.ErrInvalid))
		wantResults(t, "not valid, no proof", all(impl.LabelBound(outside, make([]int64, len(outside)))), int64(0), code(impl.ErrInvalid))
	}
}
