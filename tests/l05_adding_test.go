package tests

import (
	"fmt"
	"slices"
	"strings"
	"testing"

	"loop.example/g01326/impl"
)

// wantAdded is of promise 11: with a book added, a rack is sorted, has all of its books and the new one, and only as many as are told have moved, by 1 and all to one side.
func wantAdded(t *testing.T, r impl.Rack, b impl.Book) {
	t.Helper()
	name := fmt.Sprint(r, " and ", b)
	want, needed, can := slowAdded(r, b)
	if !can {
		wantResults(t, name, all(impl.NeedsMoved(r, b)), int64(0), code(impl.ErrLimit))
		wantResults(t, name, all(impl.AddBook(r, b)), impl.Rack{}, int64(0), code(impl.ErrLimit))
		return
	}
	wantResults(t, name, all(impl.NeedsMoved(r, b)), needed, code(impl.OK))
	added, moved, cd := impl.AddBook(r, b)
	wantResults(t, name, all(added, moved, cd), want, needed, code(impl.OK))
	if !slowValidRack(added) || added.Places != r.Places || !sameCounts(booksOf(added), append(booksOf(r), b)) {
		t.Fatalf("%s: %v is not valid, or has other books", name, added)
	}
	// It stands behind all that it does not come ahead of.
	index := len(slices.DeleteFunc(booksOf(r), func(other impl.Book) bool { return comesAhead(b, other) }))
	rest := slices.Delete(slices.Clone(added.Books), index, index+1)
	steps := map[int16]int64{}
	for i, placed := range rest {
		steps[placed.At-r.Books[i].At]++
		if placed.Book != r.Books[i].Book {
			t.Errorf("%s: the books of %v are in another order", name, added)
		}
	}
	if added.Books[index].Book != b || steps[-1]+steps[1] != moved || steps[-1]*steps[1] != 0 || steps[-1]+steps[0]+steps[1] != int64(len(rest)) {
		t.Errorf("%s: %v has other books moved than %d by 1 to one side", name, added, moved)
	}
}

// TestAdded is of promise 11, for all ways in which up to 8 places can be taken, and all places where a book can belong.
func TestAdded(t *testing.T) {
	for _, mask := range masks(8) {
		r := everyOther(mask)
		for letter := 'a'; letter <= 'b'+2*rune(len(r.Books)); letter++ {
			wantAdded(t, r, lettered(byte(letter)))
			wantAdded(t, r, lettered(byte(letter)-('a'-'A'))) // equal in the usual order only
		}
	}
	r := newRandom()
	for range 4000 {
		wantAdded(t, anyRack(r, 1+r.IntN(impl.MaxPlaces)), anyBook(r))
	}
}

func TestAddBook(t *testing.T) {
	type asked struct {
		rack   string
		letter byte
		want   string
		moved  int64
	}
	for _, a := range []asked{
		// No books: (n - 1) / 2 of the places are ahead.
		{".", 'b', "b", 0}, {"..", 'b', "b.", 0}, {"...", 'b', ".b.", 0}, {"....", 'b', ".b..", 0}, {".....", 'b', "..b..", 0},
		// One book: ahead of it, behind it, equal to it.
		{"...b", 'a', ".a.b", 0}, {"b....", 'c', "b.c..", 0}, {"b..", 'B', "bB.", 0}, {"b...", 'B', "b.B.", 0}, {".B", 'b', "Bb", 1}, {".b", 'a', "ab", 0},
		// One place, two and more between two books.
		{"a.c", 'b', "abc", 0}, {"a..c", 'b', "ab.c", 0}, {"a...c", 'b', "a.b.c", 0}, {"a....c", 'b', "a.b..c", 0},
		// Ahead of all, and behind all, with no place there: only one side can be moved.
		{"b.", 'a', "ab", 1}, {"bc..", 'a', "abc.", 2}, {"bcd.e", 'a', "abcde", 3}, {".b", 'c', "bc", 1}, {"..bc", 'd', ".bcd", 2}, {"a.bcd", 'e', "abcde", 3}, {"a.bcd", 'd', "abcdd", 3},
		// No place between two books: the side where fewer have to be moved.
		{"..ace..", 'b', ".abce..", 1}, {"..ace..", 'd', "..acde.", 1}, {".acde.", 'b', "abcde.", 1}, {".abce.", 'd', ".abcde", 1},
		{".abd.e", 'c', ".abcde", 1}, {".b.dfh.", 'e', ".bdefh.", 1}, {".b.dfh.", 'g', ".b.dfgh", 1}, {"abcd.f.", 'b', "abbcdf.", 2}, {"a.cdef", 'e', "acdeef", 3},
		// As many on both sides: towards the beginning.
		{".ac.", 'b', "abc.", 1}, {".abde.", 'c', "abcde.", 2}, {"..ac..", 'b', ".abc..", 1}, {".abcefg.", 'd', "abcdefg.", 3}, {"a.bd.e", 'c', "abcd.e", 1},
		// No free place on one side, even if fewer have to be moved to the other one up to the end.
		{"acde.", 'b', "abcde", 3}, {"acde.f", 'b', "abcdef", 3}, {".abce", 'd', "abcde", 3},
		// On neither.
		{"a", 'b', "", 0}, {"b", 'a', "", 0}, {"abd", 'c', "", 0}, {"aaa", 'a', "", 0},
		// Equal ones: behind all of them.
		{"a.aA.", 'a', "a.aAa", 0}, {"aA.a.b", 'A', "aA.aAb", 0}, {"bB..b", 'a', "abB.b", 2}, {".aAb", 'a', "aAab", 2}, {"aab.b", 'A', "aaAbb", 1},
	} {
		r := rackOf(a.rack)
		name := fmt.Sprintf("%s and %c", a.rack, a.letter)
		cd := code(impl.OK)
		if a.want == "" {
			cd = impl.ErrLimit
		}
		wantRack(t, name, all(impl.AddBook(r, lettered(a.letter))), a.want, a.moved, cd)
		wantResults(t, name, all(impl.NeedsMoved(r, lettered(a.letter))), a.moved, cd)
	}
}

// TestAddBookToGreatRacks has racks with as many places as are allowed.
func TestAddBookToGreatRacks(t *testing.T) {
	half := strings.Repeat("b", 29)
	wantRack(t, "no books", all(impl.AddBook(rackOf(strings.Repeat(".", 60)), lettered('b'))), strings.Repeat(".", 29)+"b"+strings.Repeat(".", 30), int64(0), code(impl.OK))
	wantRack(t, "as many on both sides", all(impl.AddBook(rackOf("."+half+strings.ReplaceAll(half, "b", "d")+"."), lettered('c'))), half+"c"+strings.ReplaceAll(half, "b", "d")+".", int64(29), code(impl.OK))
	wantRack(t, "all to the end", all(impl.AddBook(rackOf(strings.Repeat("b", 59)+"."), lettered('a'))), "a"+strings.Repeat("b", 59), int64(59), code(impl.OK))
	wantRack(t, "all to the beginning", all(impl.AddBook(rackOf("."+strings.Repeat("b", 59)), lettered('b'))), strings.Repeat("b", 60), int64(59), code(impl.OK))
	wantRack(t, "full", all(impl.AddBook(rackOf(strings.Repeat("b", 60)), lettered('b'))), "", int64(0), code(impl.ErrLimit))
	wantRack(t, "one place more", all(impl.AddBook(rackOf(strings.Repeat(".", 61)), lettered('b'))), "", int64(0), code(impl.ErrInvalid))
}

// TestSidesSideBySide asks often for what is tried side by side: the result is the same, whichever is done first.
func TestSidesSideBySide(t *testing.T) {
	for range 3000 {
		wantRack(t, "as many", all(impl.AddBook(rackOf(".abcefg."), lettered('d'))), "abcdefg.", int64(3), code(impl.OK))
		wantRack(t, "fewer", all(impl.AddBook(rackOf(".abcef."), lettered('d'))), ".abcdef", int64(2), code(impl.OK))
	}
}

// slowAddedAll adds a list by the document's words; false if a book has no place.
func slowAddedAll(r impl.Rack, list []impl.Book) (impl.Rack, int64, bool) {
	sum := int64(0)
	for _, b := range list {
		added, moved, can := slowAdded(r, b)
		if !can {
			return impl.Rack{}, 0, false
		}
		r, sum = added, sum+moved
	}
	return r, sum, true
}

// TestAllAdded is of promise 11: a rack to which a list is added is sorted, and has all books.
func TestAllAdded(t *testing.T) {
	r := newRandom()
	added, refused := 0, 0
	for round := range 2000 {
		rack := anyRack(r, 1+round%impl.MaxPlaces)
		list := anyBooks(r, r.IntN(min(impl.MaxBooks, int(rack.Places)-len(rack.Books)+2)))
		want, sum, can := slowAddedAll(rack, list)
		name := fmt.Sprint(rack, " and ", list)
		if !can {
			refused++
			wantResults(t, name, all(impl.AddAll(rack, list)), impl.Rack{}, int64(0), code(impl.ErrLimit))
			continue
		}
		added++
		got, moved, cd := impl.AddAll(rack, list)
		wantResults(t, name, all(moved, cd, impl.SameRack(got, want)), sum, code(impl.OK), true)
		if !slowValidRack(got) || !sameCounts(booksOf(got), append(booksOf(rack), list...)) {
			t.Errorf("%s: %v is not valid, or has other books", name, got)
		}
	}
	if added < 500 || refused < 200 {
		t.Errorf("%d lists added, %d not", added, refused)
	}
}

func TestAddAll(t *testing.T) {
	type asked struct {
		rack, list, want string
		moved            int64
		code             int64
	}
	for _, a := range []asked{
		{".", "", ".", 0, impl.OK}, {"a.b", "", "a.b", 0, impl.OK}, {"ab", "", "ab", 0, impl.OK},
		{"....", "b", ".b..", 0, impl.OK}, {"....", "dcba", "abcd", 0 + 0 + 2 + 3, impl.OK}, {"....", "bcda", "abcd", 0, impl.OK}, {"...", "abc", "abc", 0 + 0 + 2, impl.OK}, {"...", "abcd", "", 0, impl.ErrLimit},
		{"..", "ab", "ab", 0, impl.OK}, {"..", "ba", "ab", 1, impl.OK}, {"..", "aA", "aA", 0, impl.OK}, {"..", "Aa", "Aa", 0, impl.OK},
		{"ab", "c", "", 0, impl.ErrLimit}, {"a.", "bc", "", 0, impl.ErrLimit}, {".", "aa", "", 0, impl.ErrLimit},
		{"b....", "aaa", "aaab.", 1 + 1 + 1, impl.OK},
	} {
		wantRack(t, a.rack+" and "+a.list, all(impl.AddAll(rackOf(a.rack), books(a.list))), a.want, a.moved, a.code)
	}
	sixty := slices.Repeat(books("m"), impl.MaxBooks)
	got, _, cd := impl.AddAll(rackOf(strings.Repeat(".", impl.MaxPlaces)), sixty)
	wantResults(t, "as many as there are places", all(shown(got), cd), strings.Repeat("m", impl.MaxPlaces), code(impl.OK))
	wantRack(t, "one place less", all(impl.AddAll(rackOf(strings.Repeat(".", impl.MaxPlaces-1)), sixty)), "", int64(0), code(impl.ErrLimit))
	wantRack(t, "one book more", all(impl.AddAll(rackOf(strings.Repeat(".", impl.MaxPlaces)), append(sixty, sixty[0]))), "", int64(0), code(impl.ErrInvalid))
}
