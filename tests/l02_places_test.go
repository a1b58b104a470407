package tests

import (
	"fmt"
	"math"
	"slices"
	"testing"

	"loop.example/g01326/impl"
)

// TestPlacesOfBooks is of promise 6: books stand where they are found, and nowhere else.
func TestPlacesOfBooks(t *testing.T) {
	r := newRandom()
	for round := range 250 {
		c := anyCase(r, 1+round%4)
		list := smallBooks(r, r.IntN(7))
		for _, ends := range layouts(c, list) {
			wantPlaces(t, c, list, ends)
		}
	}
	for range 20 {
		c := anyCase(r, impl.MaxShelves)
		list := smallBooks(r, 30)
		if ends, cd := impl.FillShelves(c, list); cd == impl.OK {
			wantPlaces(t, c, list, ends)
		}
	}
}

// wantPlaces puts the books of a layout upon shelves, millimetre by millimetre, and looks for them there.
func wantPlaces(t *testing.T, c impl.Case, list []impl.Book, ends []int64) {
	t.Helper()
	name := fmt.Sprint(ends, " of ", list, " on ", c)
	first, last := map[int16]int64{}, map[int16]int64{}
	book := int64(0)
	for shelf, end := range ends {
		west := int64(0)
		for ; book < end; book++ {
			wantResults(t, "where "+name, all(impl.WhereIs(c, list, ends, book)), int64(shelf), west, code(impl.OK))
			for place := west; place < west+int64(list[book].Wide); place++ {
				wantResults(t, "at "+name, all(impl.BookAt(c, list, ends, int64(shelf), place)), book, code(impl.OK))
			}
			west += int64(list[book].Wide)
			class := list[book].Class
			if _, seen := first[class]; !seen {
				first[class] = int64(shelf)
			}
			last[class] = int64(shelf)
		}
		for place := west; place < int64(c.Wide); place++ {
			wantResults(t, "free "+name, all(impl.BookAt(c, list, ends, int64(shelf), place)), int64(0), code(impl.ErrNotFound))
		}
	}
	for class := range int16(5) {
		want := code(impl.OK)
		if _, seen := first[class]; !seen {
			want = impl.ErrNotFound
		}
		wantResults(t, "class "+name, all(impl.ShelfOfClass(c, list, ends, int64(class))), first[class], last[class], want)
	}
}

func TestPlacesAtBounds(t *testing.T) {
	c := impl.Case{Wide: 60, Load: 5000, Heights: []int16{250, 250, 250}}
	list := wides(25, 35, 20)
	ends := []int64{2, 2, 3}
	wantResults(t, "the first place", all(impl.BookAt(c, list, ends, 0, 0)), int64(0), code(impl.OK))
	wantResults(t, "the last place of a book", all(impl.BookAt(c, list, ends, 0, 24)), int64(0), code(impl.OK))
	wantResults(t, "the first place of the next one", all(impl.BookAt(c, list, ends, 0, 25)), int64(1), code(impl.OK))
	wantResults(t, "the last place", all(impl.BookAt(c, list, ends, 0, 59)), int64(1), code(impl.OK))
	wantResults(t, "behind the last place", all(impl.BookAt(c, list, ends, 0, 60)), int64(0), code(impl.ErrRange))
	wantResults(t, "on an empty shelf", all(impl.BookAt(c, list, ends, 1, 0)), int64(0), code(impl.ErrNotFound))
	wantResults(t, "the last place of the last book", all(impl.BookAt(c, list, ends, 2, 19)), int64(2), code(impl.OK))
	wantResults(t, "behind the last book", all(impl.BookAt(c, list, ends, 2, 20)), int64(0), code(impl.ErrNotFound))
	wantResults(t, "behind an empty shelf", all(impl.WhereIs(c, list, ends, 2)), int64(2), int64(0), code(impl.OK))
	wantResults(t, "at the east", all(impl.WhereIs(c, list, ends, 1)), int64(0), int64(25), code(impl.OK))
	wantResults(t, "behind empty shelves", all(impl.WhereIs(c, list[2:], []int64{0, 0, 1}, 0)), int64(2), int64(0), code(impl.OK))
}

func TestPlacesOutside(t *testing.T) {
	c := impl.Case{Wide: 60, Load: 5000, Heights: []int16{250, 250, 250}}
	list := wides(25, 35, 20)
	ends := []int64{2, 2, 3}
	for _, book := range []int64{-1, 3, 60, 1 << 32, math.MinInt64, math.MaxInt64} {
		wantResults(t, fmt.Sprint("book ", book), all(impl.WhereIs(c, list, ends, book)), int64(0), int64(0), code(impl.ErrRange))
	}
	wantResults(t, "no books", all(impl.WhereIs(c, nil, []int64{0, 0, 0}, 0)), int64(0), int64(0), code(impl.ErrRange))
	for _, shelf := range []int64{-1, 3, 12, 1 << 32, math.MinInt64, math.MaxInt64} {
		wantResults(t, fmt.Sprint("shelf ", shelf), all(impl.BookAt(c, list, ends, shelf, 0)), int64(0), code(impl.ErrRange))
	}
	for _, place := range []int64{-1, 60, 61, 1 << 32, math.MinInt64, math.MaxInt64} {
		wantResults(t, fmt.Sprint("place ", place), all(impl.BookAt(c, list, ends, 0, place)), int64(0), code(impl.ErrRange))
		wantResults(t, fmt.Sprint("place on an empty shelf ", place), all(impl.BookAt(c, list, ends, 1, place)), int64(0), code(impl.ErrRange))
	}
	for _, class := range []int64{-1, 0, 2, 999, 1000, 1 + 1<<16, 1 + 1<<32, math.MinInt64, math.MaxInt64} {
		wantResults(t, fmt.Sprint("class ", class), all(impl.ShelfOfClass(c, list, ends, class)), int64(0), int64(0), code(impl.ErrNotFound))
	}
	wantResults(t, "class of all", all(impl.ShelfOfClass(c, list, ends, 1)), int64(0), int64(2), code(impl.OK))
	wantResults(t, "class of no books", all(impl.ShelfOfClass(c, nil, []int64{0, 0, 0}, 1)), int64(0), int64(0), code(impl.ErrNotFound))
}

func TestShelfOfClass(t *testing.T) {
	c := impl.Case{Wide: 20, Load: 5000, Heights: []int16{100, 100, 100, 100}}
	list := []impl.Book{bookOf(7, "aaa", 1, 1), bookOf(0, "aaa", 1, 1), bookOf(0, "aaa", 1, 1), bookOf(7, "aaa", 1, 1), bookOf(999, "aaa", 1, 1)}
	ends := []int64{1, 3, 3, 5}
	wantResults(t, "with others between", all(impl.ShelfOfClass(c, list, ends, 7)), int64(0), int64(3), code(impl.OK))
	wantResults(t, "on one shelf", all(impl.ShelfOfClass(c, list, ends, 0)), int64(1), int64(1), code(impl.OK))
	wantResults(t, "the last book", all(impl.ShelfOfClass(c, list, ends, 999)), int64(3), int64(3), code(impl.OK))
}

// shelfIn returns the shelf of a book: the first one up to which it stands.
func shelfIn(ends []int64, book int64) int {
	return slices.IndexFunc(ends, func(end int64) bool { return end > book })
}

func TestMovedBooks(t *testing.T) {
	r := newRandom()
	for range 2000 {
		a := make([]int64, 1+r.IntN(15))
		b := slices.Clone(a)
		many := r.Int64N(impl.MaxBooks + 1)
		for i := range a {
			a[i], b[i] = r.Int64N(many+1), r.Int64N(many+1)
		}
		slices.Sort(a)
		slices.Sort(b)
		a[len(a)-1], b[len(b)-1] = many, many
		moved := int64(0)
		for book := range many {
			if shelfIn(a, book) != shelfIn(b, book) {
				moved++
			}
		}
		wantResults(t, fmt.Sprint(a, " and ", b), all(impl.MovedBooks(a, b)), moved, code(impl.OK))
		wantResults(t, fmt.Sprint(b, " and ", a), all(impl.MovedBooks(b, a)), moved, code(impl.OK))
		wantResults(t, fmt.Sprint(a, " and itself"), all(impl.MovedBooks(a, slices.Clone(a))), int64(0), code(impl.OK))
	}
}

func TestMovedBooksBounds(t *testing.T) {
	wantResults(t, "no shelves", all(impl.MovedBooks(nil, []int64{})), int64(0), code(impl.OK))
	wantResults(t, "no books", all(impl.MovedBooks([]int64{0, 0}, []int64{0, 0})), int64(0), code(impl.OK))
	wantResults(t, "all of MaxBooks", all(impl.MovedBooks([]int64{0, 60}, []int64{60, 60})), int64(60), code(impl.OK))
	wantResults(t, "some", all(impl.MovedBooks([]int64{2, 4, 6}, []int64{3, 3, 6})), int64(2), code(impl.OK))
	wantResults(t, "to a further shelf", all(impl.MovedBooks([]int64{1, 2, 3}, []int64{0, 0, 3})), int64(2), code(impl.OK))
	wantResults(t, "more shelves than a case has", all(impl.MovedBooks(slices.Repeat([]int64{5}, 40), append(make([]int64, 39), 5))), int64(5), code(impl.OK))
}

func TestMovedBooksErrors(t *testing.T) {
	good := []int64{1, 2, 2}
	for _, other := range [][]int64{nil, {}, {2}, {1, 2}, {1, 2, 2, 2}, {-1, 2}, {3, 2}, {61}, {0, 0, 0, 0, 0}} {
		wantResults(t, fmt.Sprint("other size ", other), all(impl.MovedBooks(good, other)), int64(0), code(impl.ErrState))
		wantResults(t, fmt.Sprint("other size ", other), all(impl.MovedBooks(other, good)), int64(0), code(impl.ErrState))
	}
	for _, other := range [][]int64{{2, 1, 2}, {1, 3, 2}, {-1, 2, 2}, {math.MinInt64, 0, 2}, {1, 2, 3}, {1, 1, 1}, {0, 0, 0}, {1, 61, 61}, {1, 2, math.MaxInt64}, {math.MaxInt64, 1, 2}} {
		wantResults(t, fmt.Sprint("range ", other), all(impl.MovedBooks(good, other)), int64(0), code(impl.ErrRange))
		wantResults(t, fmt.Sprint("range ", other), all(impl.MovedBooks(other, good)), int64(0), code(impl.ErrRange))
	}
	for _, both := range [][]int64{{61}, {-1}, {0, 61}, {-1, 5}, {2, 1}, {math.MaxInt64}, {math.MinInt64}} {
		wantResults(t, fmt.Sprint("both ", both), all(impl.MovedBooks(both, slices.Clone(both))), int64(0), code(impl.ErrRange))
	}
}
