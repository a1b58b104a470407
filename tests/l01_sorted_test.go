package tests

import (
	"fmt"
	"math"
	"slices"
	"testing"

	"loop.example/g01326/impl"
)

// TestPlaces is of promise 3: a book that is put into its place leaves a list sorted, and no greater place does.
func TestPlaces(t *testing.T) {
	r := newRandom()
	for round := range 600 {
		list := slowSort(usual, anyBooks(r, round%impl.MaxBooks))
		b := anyBook(r)
		place, c := impl.PlaceFor(list, b)
		if c != impl.OK || place < 0 || place > int64(len(list)) {
			t.Fatalf("place %d of %v in %v: code %d", place, b, list, c)
		}
		if !slowSorted(slices.Insert(slices.Clone(list), int(place), b)) {
			t.Errorf("%v at %d leaves %v not sorted", b, place, list)
		}
		for greater := int(place) + 1; greater <= len(list); greater++ {
			if slowSorted(slices.Insert(slices.Clone(list), greater, b)) {
				t.Errorf("%v fits in %v at %d, not only at %d", b, list, greater, place)
			}
		}
	}
}

func TestPlaceOfEqual(t *testing.T) {
	equal := bookOf(500, "abc", 5, 1)
	list := []impl.Book{bookOf(500, "abc", 4, 1), equal, bookOf(500, "abc", 5, 9), equal, bookOf(500, "abd", 1, 1)}
	wantResults(t, "behind equal ones", all(impl.PlaceFor(list, bookOf(500, "abc", 5, 5))), int64(4), code(impl.OK))
	wantResults(t, "ahead of all", all(impl.PlaceFor(list, bookOf(499, "zzz", 99, 1))), int64(0), code(impl.OK))
	wantResults(t, "behind all", all(impl.PlaceFor(list, bookOf(501, "aaa", 1, 1))), int64(5), code(impl.OK))
	wantResults(t, "alone", all(impl.PlaceFor(nil, equal)), int64(0), code(impl.OK))
}

func TestPlaceErrors(t *testing.T) {
	a, b := bookOf(1, "aaa", 1, 1), bookOf(2, "aaa", 1, 1)
	full := slices.Repeat([]impl.Book{a}, impl.MaxBooks)
	mixed := append([]impl.Book{b}, full[1:]...)
	wantResults(t, "room for one", all(impl.PlaceFor(full[1:], b)), int64(59), code(impl.OK))
	wantResults(t, "full", all(impl.PlaceFor(full, b)), int64(0), code(impl.ErrLimit))
	wantResults(t, "full and not sorted", all(impl.PlaceFor(mixed, b)), int64(0), code(impl.ErrState))
	wantResults(t, "not sorted", all(impl.PlaceFor([]impl.Book{b, a}, b)), int64(0), code(impl.ErrState))
	wantResults(t, "too many", all(impl.PlaceFor(append(full, b), b)), int64(0), code(impl.ErrInvalid))
	for _, bad := range booksOutside() {
		wantResults(t, "bad book", all(impl.PlaceFor(nil, bad)), int64(0), code(impl.ErrInvalid))
		wantResults(t, "bad book, not sorted", all(impl.PlaceFor([]impl.Book{b, a}, bad)), int64(0), code(impl.ErrInvalid))
		wantResults(t, "bad book, full", all(impl.PlaceFor(full, bad)), int64(0), code(impl.ErrInvalid))
		wantResults(t, "bad list", all(impl.PlaceFor([]impl.Book{b, a, bad}, b)), int64(0), code(impl.ErrInvalid))
	}
}

// TestMerged is of promise 3: merged lists have all books of both, of equal ones those of the first list first.
func TestMerged(t *testing.T) {
	r := newRandom()
	for range 600 {
		many := r.IntN(impl.MaxBooks + 1)
		a := slowSort(usual, anyBooks(r, many))
		b := slowSort(usual, anyBooks(r, r.IntN(impl.MaxBooks+1-many)))
		merged, c := impl.MergeBooks(a, b)
		both := slices.Concat(a, b)
		if c != impl.OK || !slowSorted(merged) || !sameCounts(merged, both) {
			t.Fatalf("code %d: %v and %v are merged as %v", c, a, b, merged)
		}
		if !slices.Equal(merged, slowSort(usual, both)) {
			t.Errorf("equal books of %v and %v: %v", a, b, merged)
		}
	}
}

func TestMergedEqual(t *testing.T) {
	one, two, three, four := bookOf(5, "abc", 1, 4), bookOf(5, "abc", 1, 3), bookOf(5, "abc", 1, 2), bookOf(5, "abc", 1, 1)
	wantResults(t, "equal", all(impl.MergeBooks([]impl.Book{one, three}, []impl.Book{two, four})), []impl.Book{one, three, two, four}, code(impl.OK))
	wantResults(t, "equal, others first", all(impl.MergeBooks([]impl.Book{two, four}, []impl.Book{one, three})), []impl.Book{two, four, one, three}, code(impl.OK))
	wantResults(t, "none", all(impl.MergeBooks(nil, []impl.Book{})), []impl.Book(nil), code(impl.OK))
	wantResults(t, "first only", all(impl.MergeBooks([]impl.Book{one}, nil)), []impl.Book{one}, code(impl.OK))
	wantResults(t, "second only", all(impl.MergeBooks(nil, []impl.Book{one})), []impl.Book{one}, code(impl.OK))
}

func TestMergeErrors(t *testing.T) {
	a, b := bookOf(1, "aaa", 1, 1), bookOf(2, "aaa", 1, 1)
	full := slices.Repeat([]impl.Book{a}, impl.MaxBooks)
	mixed := []impl.Book{b, a}
	none := []impl.Book(nil)
	merged, c := impl.MergeBooks(full[:30], full[30:])
	wantResults(t, "as many as can be", all(merged, c), full, code(impl.OK))
	wantResults(t, "one more", all(impl.MergeBooks(full[:30], full[29:])), none, code(impl.ErrLimit))
	wantResults(t, "full and one", all(impl.MergeBooks(full, []impl.Book{b})), none, code(impl.ErrLimit))
	wantResults(t, "first not sorted", all(impl.MergeBooks(mixed, full)), none, code(impl.ErrState))
	wantResults(t, "second not sorted", all(impl.MergeBooks(full, mixed)), none, code(impl.ErrState))
	wantResults(t, "too many", all(impl.MergeBooks(nil, append(full, a))), none, code(impl.ErrInvalid))
	for _, bad := range booksOutside() {
		wantResults(t, "first bad", all(impl.MergeBooks([]impl.Book{bad}, mixed)), none, code(impl.ErrInvalid))
		wantResults(t, "second bad", all(impl.MergeBooks(mixed, []impl.Book{bad})), none, code(impl.ErrInvalid))
		wantResults(t, "bad and full", all(impl.MergeBooks(full, []impl.Book{bad})), none, code(impl.ErrInvalid))
	}
}

func TestFindBook(t *testing.T) {
	r := newRandom()
	for round := range 400 {
		list := slowSort(usual, anyBooks(r, round%(impl.MaxBooks+1)))
		asked := anyBook(r)
		at, want := int64(0), code(impl.ErrNotFound)
		for i, b := range list {
			if slowCompare(usual, b, asked) == 0 {
				at, want = int64(i), impl.OK
				break
			}
		}
		got := all(impl.FindBook(list, int64(asked.Class), string(asked.Mark[:]), int64(asked.Volume)))
		wantResults(t, fmt.Sprint(asked, " in ", list), got, at, want)
	}
}

func TestFindNothing(t *testing.T) {
	a, b := bookOf(0, "abc", 1, 1), bookOf(2, "abc", 1, 1)
	list := []impl.Book{a, a, b, b}
	wantResults(t, "the first of equal ones", all(impl.FindBook(list, 2, "abc", 1)), int64(2), code(impl.OK))
	type asked struct {
		class  int64
		mark   string
		volume int64
	}
	nowhere := []asked{{1, "abc", 1}, {2, "abd", 1}, {2, "abc", 2}, {2, "", 1}, {2, "ab", 1}, {2, "abcd", 1}, {2, "abc\x00", 1}, {2, "ABC", 1},
		{-1, "abc", 1}, {2 + 1<<16, "abc", 1}, {2, "abc", 1 + 1<<16}, {2 + 1<<32, "abc", 1}, {2, "abc", 1 + 1<<32},
		{math.MinInt64, "abc", 1}, {2, "abc", math.MaxInt64}}
	for _, n := range nowhere {
		wantResults(t, fmt.Sprint(n), all(impl.FindBook(list, n.class, n.mark, n.volume)), int64(0), code(impl.ErrNotFound))
		wantResults(t, fmt.Sprint(n, " in none"), all(impl.FindBook(nil, n.class, n.mark, n.volume)), int64(0), code(impl.ErrNotFound))
		wantResults(t, fmt.Sprint(n, " not sorted"), all(impl.FindBook([]impl.Book{b, a}, n.class, n.mark, n.volume)), int64(0), code(impl.ErrState))
	}
	for _, bad := range booksOutside() {
		wantResults(t, "bad", all(impl.FindBook([]impl.Book{b, a, bad}, 2, "abc", 1)), int64(0), code(impl.ErrInvalid))
	}
}

func TestClassRange(t *testing.T) {
	r := newRandom()
	for round := range 400 {
		list := slowSort(usual, anyBooks(r, round%(impl.MaxBooks+1)))
		low := r.Int64N(1000)
		high := low + r.Int64N(1000-low)
		from, to := int64(0), int64(0)
		for _, b := range list {
			if int64(b.Class) < low {
				from++
			}
			if int64(b.Class) <= high {
				to++
			}
		}
		wantResults(t, fmt.Sprint(low, " to ", high), all(impl.ClassRange(list, low, high)), from, to, code(impl.OK))
	}
}

func TestClassRangeBounds(t *testing.T) {
	list := []impl.Book{bookOf(0, "aaa", 1, 1), bookOf(200, "aaa", 1, 1), bookOf(200, "aaa", 2, 1), bookOf(999, "aaa", 1, 1)}
	wantResults(t, "all", all(impl.ClassRange(list, 0, 999)), int64(0), int64(4), code(impl.OK))
	wantResults(t, "one class", all(impl.ClassRange(list, 200, 200)), int64(1), int64(3), code(impl.OK))
	wantResults(t, "between", all(impl.ClassRange(list, 201, 998)), int64(3), int64(3), code(impl.OK))
	wantResults(t, "the first", all(impl.ClassRange(list, 0, 0)), int64(0), int64(1), code(impl.OK))
	wantResults(t, "the last", all(impl.ClassRange(list, 999, 999)), int64(3), int64(4), code(impl.OK))
	wantResults(t, "behind all", all(impl.ClassRange(list[:3], 201, 999)), int64(3), int64(3), code(impl.OK))
	wantResults(t, "of none", all(impl.ClassRange(nil, 0, 999)), int64(0), int64(0), code(impl.OK))
	falling := []impl.Book{list[1], list[0]}
	for _, n := range [][2]int64{{-1, 5}, {5, 1000}, {6, 5}, {-1, 1000}, {999, 0}, {1000, 1000}, {math.MinInt64, math.MaxInt64}, {math.MaxInt64, math.MinInt64}, {1 << 32, 1 << 32}} {
		wantResults(t, fmt.Sprint(n), all(impl.ClassRange(list, n[0], n[1])), int64(0), int64(0), code(impl.ErrRange))
		wantResults(t, fmt.Sprint(n, " of none"), all(impl.ClassRange(nil, n[0], n[1])), int64(0), int64(0), code(impl.ErrRange))
		wantResults(t, fmt.Sprint(n, " not sorted"), all(impl.ClassRange(falling, n[0], n[1])), int64(0), int64(0), code(impl.ErrState))
	}
	for _, bad := range booksOutside() {
		wantResults(t, "bad", all(impl.ClassRange([]impl.Book{list[1], list[0], bad}, 6, 5)), int64(0), int64(0), code(impl.ErrInvalid))
	}
}
