package tests

import (
	"math"
	"math/rand/v2"
	"slices"
	"testing"

	"loop.example/g01326/impl"
)

// classed returns books of some classes, all else equal.
func classed(classes ...int16) []impl.Book {
	var list []impl.Book
	for _, class := range classes {
		list = append(list, bookOf(class, "aaa", 1, 100))
	}
	return list
}

// weighed returns the same books with different weights, so that those of one class are equal only in the usual order.
func weighed(list []impl.Book) []impl.Book {
	out := slices.Clone(list)
	for i := range out {
		out[i].Weight = int16(i + 1)
	}
	return out
}

// sortingExample is the list of the example of chapter 3.
func sortingExample() []impl.Book { return classed(300, 100, 200, 400) }

// patterns returns all lists of count books with classes less than count: books in all orders, with all that can be equal.
func patterns(count int) [][]impl.Book {
	lists := [][]impl.Book{nil}
	for range count {
		var longer [][]impl.Book
		for _, list := range lists {
			for class := range count {
				longer = append(longer, append(slices.Clone(list), classed(int16(class))...))
			}
		}
		lists = longer
	}
	return lists
}

// allPatterns returns all patterns of at most count books, each one with the same weights and with different ones.
func allPatterns(count int) [][]impl.Book {
	var lists [][]impl.Book
	for n := range count + 1 {
		for _, list := range patterns(n) {
			lists = append(lists, list, weighed(list))
		}
	}
	return lists
}

// comesAhead tells whether the book b comes ahead of the book a by the usual order.
func comesAhead(b, a impl.Book) bool { return slowCompare(usual, b, a) < 0 }

// slowKeeps goes through all sets of books of a short list that can be kept.
func slowKeeps(list []impl.Book, visit func(kept []int64)) {
	for set := range 1 << len(list) {
		var kept []int64
		var books []impl.Book
		for i, b := range list {
			if set>>i&1 == 1 {
				kept, books = append(kept, int64(i)), append(books, b)
			}
		}
		if slowSorted(books) {
			visit(kept)
		}
	}
}

// slowKept returns the most books that can be kept, of several lists the first one.
func slowKept(list []impl.Book) []int64 {
	var best []int64
	slowKeeps(list, func(kept []int64) {
		if len(kept) > len(best) || len(kept) == len(best) && slices.Compare(kept, best) < 0 {
			best = kept
		}
	})
	return best
}

// slowLabels returns for each book the greatest number of books that can be kept, of which it is the last one.
func slowLabels(list []impl.Book) []int64 {
	labels := make([]int64, len(list))
	slowKeeps(list, func(kept []int64) {
		if len(kept) > 0 {
			last := kept[len(kept)-1]
			labels[last] = max(labels[last], int64(len(kept)))
		}
	})
	return labels
}

// slowBound tells by the document's words what labels prove.
func slowBound(list []impl.Book, labels []int64) (int64, int64) {
	if len(labels) != len(list) {
		return 0, impl.ErrRange
	}
	different := map[int64]bool{}
	for i := range list {
		different[labels[i]] = true
		for j := range i {
			if labels[i] == labels[j] && !comesAhead(list[i], list[j]) {
				return 0, impl.ErrProof
			}
		}
	}
	return int64(len(list) - len(different)), impl.OK
}

// anyProof returns labels that are a proof: each book has a new one, or one of those of which it comes ahead of the last book.
func anyProof(r *rand.Rand, list []impl.Book) []int64 {
	var labels []int64
	last := map[int64]impl.Book{}
	for _, b := range list {
		label := int64(r.Uint64())
		for _, used := range labels {
			if comesAhead(b, last[used]) && r.IntN(3) > 0 {
				label = used
			}
		}
		labels = append(labels, label)
		last[label] = b
	}
	return labels
}

// slowPut takes count elements out, and puts them back, one by one; false if this cannot be.
func slowPut[T any](list []T, from, count, to int) ([]T, bool) {
	if from < 0 || count < 1 || count > len(list) || from > len(list)-count || to < 0 || to > len(list)-count {
		return nil, false
	}
	var block, left []T
	for i, e := range list {
		if i >= from && i < from+count {
			block = append(block, e)
		} else {
			left = append(left, e)
		}
	}
	for i, e := range block {
		left = slices.Insert(left, to+i, e)
	}
	return left, true
}

// slowMoves tells by the document's words which moves sort a list; books are told apart by where they are kept in memory.
func slowMoves(list []impl.Book) []impl.Move {
	var row []*impl.Book
	for i := range list {
		row = append(row, &list[i])
	}
	done := map[*impl.Book]bool{}
	for _, i := range slowKept(list) {
		done[&list[i]] = true
	}
	var moves []impl.Move
	for i := range list {
		b := &list[i]
		if done[b] {
			continue
		}
		from, to := slices.Index(row, b), 0
		left := slices.Concat(row[:from], row[from+1:])
		for at := len(left) - 1; at >= 0; at-- {
			if done[left[at]] && !comesAhead(*b, *left[at]) {
				to = at + 1
				break
			}
		}
		row, _ = slowPut(row, from, 1, to)
		done[b] = true
		moves = append(moves, impl.Move{From: int16(from), To: int16(to)})
	}
	return moves
}

// fewBooks keeps at most MaxBlock books, so that lists can be keys of maps.
type fewBooks struct {
	count int
	books [impl.MaxBlock]impl.Book
}

func fewOf(list []impl.Book) fewBooks {
	few := fewBooks{count: len(list)}
	copy(few.books[:], list)
	return few
}

// stepsToSorted returns behind how many block moves of at most so many books a list of at most MaxBlock books can be sorted.
func stepsToSorted(list []impl.Book, longest int) int64 {
	steps := map[fewBooks]int64{fewOf(list): 0}
	for queue := []fewBooks{fewOf(list)}; ; queue = queue[1:] {
		now := queue[0]
		row := now.books[:now.count]
		if slowSorted(row) {
			return steps[now]
		}
		for from := range row {
			for count := 1; count <= longest; count++ {
				for to := range row {
					next, can := slowPut(row, from, count, to)
					if _, known := steps[fewOf(next)]; can && !known {
						steps[fewOf(next)] = steps[now] + 1
						queue = append(queue, fewOf(next))
					}
				}
			}
		}
	}
}

// slowPlaces returns, for each book of a list, where SortBooks puts it: behind all that come ahead of it, and all equal ones ahead of it in the list.
func slowPlaces(list []impl.Book) []int {
	places := make([]int, len(list))
	for i, b := range list {
		for j, other := range list {
			if comesAhead(other, b) || j < i && !comesAhead(b, other) {
				places[i]++
			}
		}
	}
	return places
}

// slowPasses goes along a shelf again and again, and takes the books that are next.
func slowPasses(list []impl.Book) ([]int64, int64) {
	places := slowPlaces(list)
	passes := make([]int64, len(list))
	taken, pass := 0, int64(0)
	for taken < len(list) {
		pass++
		for i, place := range places {
			if place == taken {
				passes[i] = pass
				taken++
			}
		}
	}
	return passes, pass
}

// slowSwaps returns by a search the least number of swaps of at most MaxBlock books behind which each one stands where SortBooks puts it.
func slowSwaps(list []impl.Book) int64 {
	var first, goal [impl.MaxBlock]int
	copy(first[:], slowPlaces(list))
	for i := range list {
		goal[i] = i
	}
	steps := map[[impl.MaxBlock]int]int64{first: 0}
	for queue := [][impl.MaxBlock]int{first}; ; queue = queue[1:] {
		now := queue[0]
		if now == goal {
			return steps[now]
		}
		for i := range list {
			for j := range i {
				next := now
				next[i], next[j] = next[j], next[i]
				if _, known := steps[next]; !known {
					steps[next] = steps[now] + 1
					queue = append(queue, next)
				}
			}
		}
	}
}

// listsOutside are lists of books that are not valid.
func listsOutside() [][]impl.Book {
	lists := [][]impl.Book{slices.Repeat([]impl.Book{plain}, impl.MaxBooks+1)}
	for _, bad := range booksOutside() {
		lists = append(lists, []impl.Book{bad}, []impl.Book{plain, bad}, []impl.Book{bad, plain, plain})
	}
	return lists
}

// farNumbers are numbers of moves that no list has.
func farNumbers() []int16 { return []int16{-1, 60, 61, 100, 256, math.MinInt16, math.MaxInt16} }

// wantSorted checks that a list is sorted, and has the books of another one.
func wantSorted(t *testing.T, list, of []impl.Book) {
	t.Helper()
	if !slowSorted(list) || !sameCounts(list, of) {
		t.Errorf("%v is sorted as %v", of, list)
	}
}
