package tests

import (
	"fmt"
	"slices"
	"testing"

	"loop.example/g01326/impl"
)

// wantPasses compares passes with a walk along a shelf.
func wantPasses(t *testing.T, list []impl.Book) {
	t.Helper()
	passes, count := slowPasses(list)
	wantResults(t, fmt.Sprint("pass list of ", list), all(impl.PassList(list)), passes, code(impl.OK))
	wantResults(t, fmt.Sprint("passes of ", list), all(impl.PassesOf(list)), count, code(impl.OK))
}

// TestPasses is of promise 8: what is taken pass by pass is the list as SortBooks leaves it.
func TestPasses(t *testing.T) {
	for _, list := range allPatterns(5) {
		wantPasses(t, list)
	}
	r := newRandom()
	for round := range 300 {
		list := anyBooks(r, round%(impl.MaxBooks+1))
		wantPasses(t, list)
		passes, _ := impl.PassList(list)
		count, _ := impl.PassesOf(list)
		var taken []impl.Book
		for pass := int64(1); pass <= count; pass++ {
			for i, b := range list {
				if passes[i] == pass {
					taken = append(taken, b)
				}
			}
		}
		if !slices.Equal(taken, slowSort(usual, list)) {
			t.Errorf("%v is taken as %v", list, taken)
		}
	}
}

func TestPassesByHand(t *testing.T) {
	type asked struct {
		classes []int16
		passes  []int64
		count   int64
	}
	for _, a := range []asked{
		{nil, nil, 0},
		{[]int16{5}, []int64{1}, 1},
		{[]int16{1, 2, 3}, []int64{1, 1, 1}, 1},
		{[]int16{5, 5, 5}, []int64{1, 1, 1}, 1},
		{[]int16{3, 2, 1}, []int64{3, 2, 1}, 3},
		{[]int16{2, 1, 2}, []int64{2, 1, 2}, 2}, // the first 2 comes ahead of the second one
		{[]int16{1, 2, 1, 2}, []int64{1, 2, 1, 2}, 2},
		{[]int16{2, 3, 1}, []int64{2, 2, 1}, 2},
	} {
		for _, list := range [][]impl.Book{classed(a.classes...), weighed(classed(a.classes...))} {
			wantResults(t, fmt.Sprint("pass list of ", list), all(impl.PassList(list)), a.passes, code(impl.OK))
			wantResults(t, fmt.Sprint("passes of ", list), all(impl.PassesOf(list)), a.count, code(impl.OK))
		}
	}
	falling := make([]int16, impl.MaxBooks)
	for i := range falling {
		falling[i] = int16(100 - i)
	}
	wantResults(t, "passes of MaxBooks", all(impl.PassesOf(classed(falling...))), int64(impl.MaxBooks), code(impl.OK))
}

// slowSwapsFor tells by the document's words which swaps bring each book where SortBooks puts it.
func slowSwapsFor(list []impl.Book) []impl.Move {
	places := slowPlaces(list)
	var swaps []impl.Move
	for i := range places {
		if places[i] == i {
			continue
		}
		for j := range places {
			if places[j] == i {
				swaps = append(swaps, impl.Move{From: int16(i), To: int16(j)})
				places[i], places[j] = places[j], places[i]
				break
			}
		}
	}
	return swaps
}

// wantSwaps checks swaps and what they leave: the books as SortBooks has them, equal ones as they were.
func wantSwaps(t *testing.T, list []impl.Book) {
	t.Helper()
	want := slowSwapsFor(list)
	swaps, c := impl.SwapsFor(list)
	wantResults(t, fmt.Sprint("swaps of ", list), all(swaps, c), want, code(impl.OK))
	wantResults(t, fmt.Sprint("least swaps of ", list), all(impl.LeastSwaps(list)), int64(len(want)), code(impl.OK))
	wantResults(t, fmt.Sprint("swapped ", list), all(impl.SwapAll(list, swaps)), slowSort(usual, list), code(impl.OK))
	for _, swap := range swaps {
		if swap.From >= swap.To {
			t.Errorf("%v of %v", swap, list)
		}
	}
}

// TestSwaps is of promise 8: swaps leave a sorted list.
func TestSwaps(t *testing.T) {
	for _, list := range allPatterns(5) {
		wantSwaps(t, list)
	}
	r := newRandom()
	for round := range 300 {
		wantSwaps(t, anyBooks(r, round%(impl.MaxBooks+1)))
		wantSwaps(t, weighed(anyBooks(r, round%(impl.MaxBooks+1))))
	}
}

// TestNoFewerSwaps compares the least number of swaps with a search of all swaps.
func TestNoFewerSwaps(t *testing.T) {
	lists := allPatterns(4)
	r := newRandom()
	for range 150 {
		lists = append(lists, pickOf(r, patterns(5)...))
	}
	for range 10 {
		list := classed(1, 2, 3, 4, 5, 6)
		r.Shuffle(len(list), func(i, j int) { list[i], list[j] = list[j], list[i] })
		lists = append(lists, list)
	}
	for _, list := range lists {
		wantResults(t, fmt.Sprint("least swaps of ", list), all(impl.LeastSwaps(list)), slowSwaps(list), code(impl.OK))
	}
}

func TestSwapsByHand(t *testing.T) {
	type asked struct {
		classes []int16
		swaps   string
	}
	for _, a := range []asked{
		{nil, ""},
		{[]int16{5}, ""},
		{[]int16{5, 5}, ""},
		{[]int16{2, 1}, "0>1"},
		{[]int16{3, 2, 1}, "0>2"},
		{[]int16{2, 3, 1}, "0>2 1>2"},
		{[]int16{2, 2, 1}, "0>2 1>2"}, // one swap sorts it, but leaves the equal ones exchanged
		{[]int16{2, 1, 4, 3}, "0>1 2>3"},
		{[]int16{1, 2, 1}, "1>2"},
	} {
		for _, list := range [][]impl.Book{classed(a.classes...), weighed(classed(a.classes...))} {
			swaps, c := impl.SwapsFor(list)
			wantResults(t, fmt.Sprint("swaps of ", list), all(impl.MovesText(swaps), c), a.swaps, code(impl.OK))
			wantResults(t, fmt.Sprint("least swaps of ", list), all(impl.LeastSwaps(list)), int64(len(swaps)), code(impl.OK))
		}
	}
}

func TestSwapAll(t *testing.T) {
	r := newRandom()
	for count := range 5 {
		list := weighed(anyBooks(r, count))
		numbers := farNumbers()
		for n := -2; n <= count+2; n++ {
			numbers = append(numbers, int16(n))
		}
		for _, from := range numbers {
			for _, to := range numbers {
				var want []impl.Book
				wantCode := code(impl.ErrRange)
				if min(from, to) >= 0 && int(max(from, to)) < count {
					want, wantCode = slices.Clone(list), impl.OK
					want[from], want[to] = list[to], list[from]
				}
				swap := impl.Move{From: from, To: to}
				wantResults(t, fmt.Sprint(swap, " of ", count), all(impl.SwapAll(list, []impl.Move{swap})), want, wantCode)
			}
		}
	}
	list := classed(1, 2, 3, 4)
	wantResults(t, "one after the other", all(impl.SwapAll(list, []impl.Move{{From: 0, To: 1}, {From: 3, To: 1}, {From: 2, To: 2}})), classed(2, 4, 3, 1), code(impl.OK))
	wantResults(t, "none", all(impl.SwapAll(list, nil)), list, code(impl.OK))
	wantResults(t, "none of no books", all(impl.SwapAll(nil, nil)), []impl.Book(nil), code(impl.OK))
}

func TestSwapAllErrors(t *testing.T) {
	list := classed(2, 3, 1)
	none := []impl.Book(nil)
	turns := slices.Repeat([]impl.Move{{From: 2, To: 0}}, impl.MaxMoves)
	wantResults(t, "199 swaps", all(impl.SwapAll(list, turns[:199])), classed(1, 3, 2), code(impl.OK))
	wantResults(t, "200 swaps", all(impl.SwapAll(list, turns)), list, code(impl.OK))
	outside := append(slices.Clone(turns[:199]), impl.Move{From: 0, To: 3})
	for _, bad := range []struct {
		name  string
		swaps []impl.Move
		want  int64
	}{
		{"201 swaps", append(turns, impl.Move{}), impl.ErrLimit},
		{"the last one outside", outside, impl.ErrRange},
		{"201 swaps, one outside", append(outside, impl.Move{}), impl.ErrLimit},
		{"the first one outside", []impl.Move{{From: -1}, {}}, impl.ErrRange},
	} {
		wantResults(t, bad.name, all(impl.SwapAll(list, bad.swaps)), none, bad.want)
		for _, outside := range listsOutside() {
			wantResults(t, bad.name+", not valid", all(impl.SwapAll(outside, bad.swaps)), none, code(impl.ErrInvalid))
		}
	}
}
