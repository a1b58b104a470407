package tests

import (
	"fmt"
	"math"
	"slices"
	"testing"

	"loop.example/g01326/impl"
)

// slowBreaks looks for each book of the sorted list whether the one that it follows there stands right before it.
func slowBreaks(list []impl.Book) int64 {
	places := slowPlaces(list)
	breaks := int64(0)
	for i, place := range places {
		if place == 0 && i != 0 || place > 0 && (i == 0 || places[i-1] != place-1) {
			breaks++
		}
	}
	return breaks
}

func TestBreaksOf(t *testing.T) {
	for _, list := range allPatterns(5) {
		want := slowBreaks(list)
		if (want == 0) != slices.IsSorted(slowPlaces(list)) {
			t.Fatalf("%d breaks of %v", want, list)
		}
		wantResults(t, fmt.Sprint("breaks of ", list), all(impl.BreaksOf(list)), want, code(impl.OK))
	}
	r := newRandom()
	for round := range 300 {
		list := anyBooks(r, round%(impl.MaxBooks+1))
		wantResults(t, fmt.Sprint("breaks of ", list), all(impl.BreaksOf(list)), slowBreaks(list), code(impl.OK))
		sorted, _ := impl.SortBooks(usual, list)
		wantResults(t, "breaks of a sorted list", all(impl.BreaksOf(sorted)), int64(0), code(impl.OK))
	}
}

func TestBreaksByHand(t *testing.T) {
	type asked struct {
		classes []int16
		breaks  int64
	}
	for _, a := range []asked{
		{nil, 0},
		{[]int16{5}, 0},
		{[]int16{5, 5, 5}, 0}, // the first one comes first, and stands first
		{[]int16{1, 2, 3}, 0},
		{[]int16{2, 1}, 2},
		{[]int16{3, 2, 1}, 3},
		{[]int16{2, 3, 1}, 2}, // 1 does not stand first, and not before 2
		{[]int16{3, 1, 2}, 2},
		{[]int16{1, 3, 2}, 2},
		{[]int16{2, 1, 1}, 2},
		{[]int16{1, 2, 1}, 2}, // the first 1 does not stand before the second one, nor this before 2
		{[]int16{2, 1, 2}, 3}, // 1 stands before the second 2, but belongs before the first one
	} {
		for _, list := range [][]impl.Book{classed(a.classes...), weighed(classed(a.classes...))} {
			wantResults(t, fmt.Sprint("breaks of ", list), all(impl.BreaksOf(list)), a.breaks, code(impl.OK))
		}
	}
}

func TestMoveBlock(t *testing.T) {
	r := newRandom()
	for count := range 7 {
		list := weighed(anyBooks(r, count))
		var numbers []int16
		for n := -2; n <= count+2; n++ {
			numbers = append(numbers, int16(n))
		}
		numbers = append(numbers, math.MinInt16, math.MaxInt16, math.MaxInt16-1)
		for _, from := range numbers {
			for _, long := range numbers {
				for _, to := range numbers {
					want, can := slowPut(list, int(from), int(long), int(to))
					wantCode := code(impl.OK)
					if !can {
						wantCode = impl.ErrRange
					}
					b := impl.Block{From: from, Count: long, To: to}
					wantResults(t, fmt.Sprint(b, " of ", count), all(impl.MoveBlock(list, b)), want, wantCode)
				}
			}
		}
	}
}

func TestMoveBlockBounds(t *testing.T) {
	list := classed(1, 2, 3, 4, 5)
	none := []impl.Book(nil)
	type asked struct {
		b    impl.Block
		want []impl.Book
		code int64
	}
	for _, a := range []asked{
		{impl.Block{From: 1, Count: 2, To: 0}, classed(2, 3, 1, 4, 5), impl.OK},
		{impl.Block{From: 1, Count: 2, To: 2}, classed(1, 4, 2, 3, 5), impl.OK},
		{impl.Block{From: 1, Count: 2, To: 3}, classed(1, 4, 5, 2, 3), impl.OK},
		{impl.Block{From: 1, Count: 2, To: 1}, list, impl.OK},
		{impl.Block{From: 1, Count: 2, To: 4}, none, impl.ErrRange},
		{impl.Block{From: 1, Count: 2, To: -1}, none, impl.ErrRange},
		{impl.Block{From: 0, Count: 5, To: 0}, list, impl.OK}, // all books
		{impl.Block{From: 0, Count: 5, To: 1}, none, impl.ErrRange},
		{impl.Block{From: 0, Count: 6, To: 0}, none, impl.ErrRange},
		{impl.Block{From: 4, Count: 1, To: 0}, classed(5, 1, 2, 3, 4), impl.OK}, // one book
		{impl.Block{From: 0, Count: 1, To: 4}, classed(2, 3, 4, 5, 1), impl.OK},
		{impl.Block{From: 5, Count: 1, To: 0}, none, impl.ErrRange},
		{impl.Block{From: -1, Count: 1, To: 0}, none, impl.ErrRange},
		{impl.Block{From: -1, Count: 3, To: 0}, none, impl.ErrRange},
		{impl.Block{From: 4, Count: 2, To: 0}, none, impl.ErrRange},
		{impl.Block{From: 0, Count: 0, To: 0}, none, impl.ErrRange},
		{impl.Block{From: 3, Count: -1, To: 0}, none, impl.ErrRange},
		{impl.Block{From: 1, Count: math.MaxInt16, To: 0}, none, impl.ErrRange},
		{impl.Block{From: math.MaxInt16, Count: math.MaxInt16, To: 0}, none, impl.ErrRange},
		{impl.Block{From: math.MinInt16, Count: math.MinInt16, To: 0}, none, impl.ErrRange},
	} {
		wantResults(t, fmt.Sprint(a.b), all(impl.MoveBlock(list, a.b)), a.want, a.code)
	}
	wantResults(t, "of no books", all(impl.MoveBlock(nil, impl.Block{})), none, code(impl.ErrRange))
	wantResults(t, "of the one book", all(impl.MoveBlock(list[:1], impl.Block{Count: 1})), list[:1], code(impl.OK))
	full := weighed(slices.Repeat(classed(5), impl.MaxBooks))
	turned := slices.Concat(full[25:], full[:25])
	wantResults(t, "of MaxBooks", all(impl.MoveBlock(full, impl.Block{From: 0, Count: 25, To: 35})), turned, code(impl.OK))
	wantResults(t, "of MaxBooks, all", all(impl.MoveBlock(full, impl.Block{From: 0, Count: 60, To: 0})), full, code(impl.OK))
}

// slowBlocks returns the first block moves, by From, then by Count, then by To, behind which one less is needed, as a search tells.
func slowBlocks(list []impl.Book, steps func(list []impl.Book) int64) []impl.Block {
	var blocks []impl.Block
	for left := steps(list) - 1; left >= 0; left-- {
		next := func() []impl.Book {
			for from := range list {
				for count := 1; count <= len(list); count++ {
					for to := 0; to <= len(list); to++ {
						moved, can := slowPut(list, from, count, to)
						if can && steps(moved) == left {
							blocks = append(blocks, impl.Block{From: int16(from), Count: int16(count), To: int16(to)})
							return moved
						}
					}
				}
			}
			return nil
		}
		list = next()
	}
	return blocks
}

// TestFewestBlocks is of promise 8: block moves leave a sorted list, and a search of all block moves finds no fewer, and none that come first.
func TestFewestBlocks(t *testing.T) {
	known := map[fewBooks]int64{}
	steps := func(list []impl.Book) int64 {
		if _, is := known[fewOf(list)]; !is {
			known[fewOf(list)] = stepsToSorted(list, len(list))
		}
		return known[fewOf(list)]
	}
	lists := allPatterns(4)
	r := newRandom()
	for range 60 {
		lists = append(lists, pickOf(r, patterns(5)...))
	}
	for range 4 {
		list := classed(1, 2, 3, 4, 5, 6)
		r.Shuffle(len(list), func(i, j int) { list[i], list[j] = list[j], list[i] })
		lists = append(lists, list)
	}
	lists = append(lists, classed(6, 5, 4, 3, 2, 1), classed(3, 3, 2, 2, 1, 1), classed(2, 1, 2, 1, 2, 1))
	for _, list := range lists {
		name := fmt.Sprint(" of ", list)
		wantResults(t, "least blocks"+name, all(impl.LeastBlocks(list)), steps(list), code(impl.OK))
		wantResults(t, "blocks"+name, all(impl.BlocksFor(list)), slowBlocks(list, steps), code(impl.OK))
	}
}

// TestBlocksSort is of promise 8: lists are sorted behind their block moves, of which no more are needed than of single moves.
func TestBlocksSort(t *testing.T) {
	r := newRandom()
	for round := range 300 {
		list := anyBooks(r, round%(impl.MaxBlock+1))
		if round%2 == 0 {
			for i := range list {
				list[i].Class = int16(r.IntN(1000))
			}
		}
		blocks, c := impl.BlocksFor(list)
		least, leastCode := impl.LeastBlocks(list)
		single, _ := impl.LeastMoves(list)
		if c != impl.OK || leastCode != impl.OK || int64(len(blocks)) != least || least > single {
			t.Fatalf("codes %d and %d: %v of %v, the least are %d, and of single moves %d", c, leastCode, blocks, list, least, single)
		}
		moved := list
		for i, b := range blocks {
			rest, _ := impl.LeastBlocks(moved)
			if rest != least-int64(i) || slowSorted(moved) {
				t.Errorf("ahead of %v of %v %d are needed", b, list, rest)
			}
			moved, c = impl.MoveBlock(moved, b)
			if c != impl.OK {
				t.Fatalf("code %d: %v of %v", c, b, list)
			}
		}
		wantSorted(t, moved, list)
	}
}

func TestBlocksByHand(t *testing.T) {
	type asked struct {
		classes []int16
		blocks  []impl.Block
	}
	for _, a := range []asked{
		{nil, nil},
		{[]int16{5}, nil},
		{[]int16{5, 5, 5, 5, 5, 5}, nil},
		{[]int16{1, 2, 3, 4, 5, 6}, nil},
		{[]int16{2, 1}, []impl.Block{{From: 0, Count: 1, To: 1}}},
		{[]int16{4, 5, 6, 1, 2, 3}, []impl.Block{{From: 0, Count: 3, To: 3}}},
		{[]int16{1, 2, 4, 5, 3, 6}, []impl.Block{{From: 2, Count: 2, To: 3}}},
		{[]int16{1, 2, 1, 2, 1, 2}, []impl.Block{{From: 0, Count: 2, To: 1}, {From: 0, Count: 4, To: 1}}}, // ahead of those with From 1
		{[]int16{2, 1, 1, 2}, []impl.Block{{From: 0, Count: 1, To: 2}}},                                   // 2 may be put ahead of the other one
		{[]int16{3, 2, 1}, []impl.Block{{From: 0, Count: 1, To: 1}, {From: 0, Count: 2, To: 1}}},
	} {
		list := weighed(classed(a.classes...))
		wantResults(t, fmt.Sprint("blocks of ", a.classes), all(impl.BlocksFor(list)), a.blocks, code(impl.OK))
		wantResults(t, fmt.Sprint("least of ", a.classes), all(impl.LeastBlocks(list)), int64(len(a.blocks)), code(impl.OK))
	}
}

func TestBlockLimit(t *testing.T) {
	seven := classed(1, 2, 3, 4, 5, 6, 7)
	none := []impl.Block(nil)
	wantResults(t, "MaxBlock books", all(impl.BlocksFor(seven[:6])), none, code(impl.OK))
	wantResults(t, "least of MaxBlock books", all(impl.LeastBlocks(seven[:6])), int64(0), code(impl.OK))
	for _, list := range [][]impl.Book{seven, classed(7, 1, 2, 3, 4, 5, 6), slices.Repeat([]impl.Book{plain}, impl.MaxBooks)} {
		wantResults(t, "more", all(impl.BlocksFor(list)), none, code(impl.ErrLimit))
		wantResults(t, "least of more", all(impl.LeastBlocks(list)), int64(0), code(impl.ErrLimit))
		list = append(slices.Clone(list[:len(list)-1]), impl.Book{})
		wantResults(t, "more, not valid", all(impl.BlocksFor(list)), none, code(impl.ErrInvalid))
		wantResults(t, "least of more, not valid", all(impl.LeastBlocks(list)), int64(0), code(impl.ErrInvalid))
	}
}
