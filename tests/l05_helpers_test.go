package tests

import (
	"bytes"
	"fmt"
	"math"
	"math/rand/v2"
	"slices"
	"strings"
	"testing"

	"loop.example/g01326/impl"
)

// lettered returns the book of a letter. A capital one differs from the small one only in its weight, so that both are equal in the usual order.
func lettered(letter byte) impl.Book {
	if letter < 'a' {
		return bookOf(int16(letter-'A'), "aaa", 1, 2)
	}
	return bookOf(int16(letter-'a'), "aaa", 1, 1)
}

// books returns the books of some letters.
func books(letters string) []impl.Book {
	var list []impl.Book
	for _, letter := range []byte(letters) {
		list = append(list, lettered(letter))
	}
	return list
}

// rackOf returns the rack that has a place for each byte: a free one for ".", and one with its book for a letter.
func rackOf(places string) impl.Rack {
	r := impl.Rack{Places: int16(len(places))}
	for at, letter := range []byte(places) {
		if letter != '.' {
			r.Books = append(r.Books, impl.Placed{At: int16(at), Book: lettered(letter)})
		}
	}
	return r
}

// shown returns the bytes of which rackOf makes a rack.
func shown(r impl.Rack) string {
	text := bytes.Repeat([]byte{'.'}, max(0, int(r.Places)))
	for _, placed := range r.Books {
		if placed.At < 0 || placed.At >= r.Places {
			return fmt.Sprint(r)
		}
		letter := 'a' + byte(placed.Book.Class)
		if placed.Book != lettered(letter) {
			letter -= 'a' - 'A'
		}
		text[placed.At] = letter
	}
	return string(text)
}

// wantRack checks a rack, what is told beside it, and that it is valid unless it is beside an error.
func wantRack(t *testing.T, name string, got []any, want string, wanted ...any) {
	t.Helper()
	r := got[0].(impl.Rack)
	if shown(r) != want || want != "" && !slowValidRack(r) {
		t.Errorf("%s: the rack is %q, want %q", name, shown(r), want)
	}
	wantResults(t, name, got[1:], wanted...)
}

// racksInside are valid racks, on the bounds of what is valid too; racksOutside are not.
func racksInside() []impl.Rack {
	return []impl.Rack{rackOf("."), rackOf("a"), rackOf(".a.bcC..d"), rackOf("aaa"), rackOf(strings.Repeat(".", 60)), rackOf(strings.Repeat("m", 60)), rackOf("a" + strings.Repeat(".", 58) + "z"),
		{Places: 3, Books: []impl.Placed{}}, {Places: 3, Books: []impl.Placed{{At: 0, Book: booksInside()[1]}, {At: 1, Book: booksInside()[0]}, {At: 2, Book: booksInside()[2]}}}}
}

func racksOutside() []impl.Rack {
	list := []impl.Rack{{}, rackOf(strings.Repeat(".", 61)), rackOf(strings.Repeat("m", 61)), rackOf("ba"), rackOf("b..a"), rackOf("abdc"), rackOf("b.a.b"),
		{Books: []impl.Placed{{At: 0, Book: plain}}}}
	for _, places := range []int16{0, -1, -60, 61, 100, 256 + 5, math.MinInt16, math.MaxInt16} {
		list = append(list, impl.Rack{Places: places}, impl.Rack{Places: places, Books: []impl.Placed{{At: 0, Book: plain}}})
	}
	for _, at := range []int16{-1, 5, 6, 60, -5, 256, 257, math.MinInt16, math.MaxInt16} {
		for _, ats := range [][]int16{{at}, {0, at}, {at, 4}, {0, at, 4}} {
			list = append(list, plainAt(5, ats...))
		}
	}
	list = append(list, plainAt(5, 0, 0), plainAt(5, 4, 4), plainAt(5, 1, 0), plainAt(5, 0, 2, 2), plainAt(5, 0, 2, 1), plainAt(5, 4, 3, 2, 1, 0), plainAt(2, 0, 1, 1), plainAt(2, 0, 1, 2), plainAt(1, 0, 0))
	for _, bad := range booksOutside() {
		for i := range 3 {
			r := plainAt(5, 0, 2, 4)
			r.Books[i].Book = bad
			list = append(list, r)
		}
	}
	return list
}

// plainAt returns a rack, valid or not, with equal books in some places.
func plainAt(places int16, ats ...int16) impl.Rack {
	r := impl.Rack{Places: places}
	for _, at := range ats {
		r.Books = append(r.Books, impl.Placed{At: at, Book: plain})
	}
	return r
}

// masks returns all ways in which at most so many places can be free, ".", or taken, "#".
func masks(most int) []string {
	var found []string
	longer := []string{""}
	for range most {
		var next []string
		for _, mask := range longer {
			next = append(next, mask+".", mask+"#")
		}
		found = append(found, next...)
		longer = next
	}
	return found
}

// maskOf returns the mask of a rack.
func maskOf(r impl.Rack) string {
	return strings.Map(func(letter rune) rune {
		if letter == '.' {
			return '.'
		}
		return '#'
	}, shown(r))
}

// everyOther returns the rack of a mask with every other letter from "b" on, so that a further book can belong between any two of them, or be equal to one.
func everyOther(mask string) impl.Rack {
	places := []byte(mask)
	letter := byte('b')
	for at := range places {
		if places[at] == '#' {
			places[at] = letter
			letter += 2
		}
	}
	return rackOf(string(places))
}

// anyRack returns a valid rack with so many places, with few classes, so that many books are equal in the usual order, and often crowded.
func anyRack(r *rand.Rand, places int) impl.Rack {
	rack := impl.Rack{Places: int16(places)}
	crowd := 1 + r.IntN(10)
	list := slowSort(usual, anyBooks(r, places))
	for at, b := range list {
		if r.IntN(10) < crowd {
			rack.Books = append(rack.Books, impl.Placed{At: int16(at), Book: b})
		}
	}
	return rack
}

// slowValidRack tells by the document's words whether a rack is valid.
func slowValidRack(r impl.Rack) bool {
	if r.Places < 1 || r.Places > 60 {
		return false
	}
	for i, placed := range r.Books {
		if placed.At < 0 || placed.At >= r.Places || !impl.ValidBook(placed.Book) || i > 0 && placed.At <= r.Books[i-1].At {
			return false
		}
	}
	return slowSorted(booksOf(r))
}

// booksOf returns the books of a rack.
func booksOf(r impl.Rack) []impl.Book {
	var list []impl.Book
	for _, placed := range r.Books {
		list = append(list, placed.Book)
	}
	return list
}

// slowBounds returns the index that a book gets among those of a rack, the first place behind the one ahead of it, and the place of the next one, or the end.
func slowBounds(r impl.Rack, b impl.Book) (index int, first, next int16) {
	next = r.Places
	for i, placed := range r.Books {
		if !comesAhead(b, placed.Book) {
			index, first = i+1, placed.At+1
		}
	}
	if index < len(r.Books) {
		next = r.Books[index].At
	}
	return index, first, next
}

// slowNeighbours returns how many books stand one next to the other from an index on, in steps of 1 towards the end or of -1 towards the beginning, and whether there is a free place behind them; the first one has to stand in a place.
func slowNeighbours(r impl.Rack, index int, place, step int16) (int, bool) {
	count := 0
	for index >= 0 && index < len(r.Books) && r.Books[index].At == place {
		count++
		index += int(step)
		place += step
	}
	return count, place >= 0 && place < r.Places
}

// slowAdded adds a book by the document's words; false if no place is free.
func slowAdded(r impl.Rack, b impl.Book) (impl.Rack, int64, bool) {
	index, first, next := slowBounds(r, b)
	placed := slices.Clone(r.Books)
	at, moved := first, 0
	if n := next - first; n >= 1 {
		at = first + (n-1)/2
	} else {
		west, canWest := slowNeighbours(r, index-1, first-1, -1)
		east, canEast := slowNeighbours(r, index, first, 1)
		switch {
		case canWest && (!canEast || west <= east):
			for i := index - west; i < index; i++ {
				placed[i].At--
			}
			at, moved = first-1, west
		case canEast:
			for i := index; i < index+east; i++ {
				placed[i].At++
			}
			at, moved = first, east
		default:
			return impl.Rack{}, 0, false
		}
	}
	return impl.Rack{Places: r.Places, Books: slices.Insert(placed, index, impl.Placed{At: at, Book: b})}, int64(moved), true
}

// slowSpreadPlace returns the greatest place that is not behind (2 * i + 1) * places / (2 * n).
func slowSpreadPlace(i, n, places int) int16 {
	at := int16(0)
	for 2*n*int(at+1) <= (2*i+1)*places {
		at++
	}
	return at
}

// slowSpread spreads the books of a rack, and tells how many stand elsewhere then.
func slowSpread(r impl.Rack) (impl.Rack, int64) {
	spread := impl.Rack{Places: r.Places, Books: slices.Clone(r.Books)}
	moved := int64(0)
	for i := range spread.Books {
		spread.Books[i].At = slowSpreadPlace(i, len(r.Books), int(r.Places))
		if spread.Books[i].At != r.Books[i].At {
			moved++
		}
	}
	return spread, moved
}

// slowGrown adds books year by year by the document's words; false if a book has no place.
func slowGrown(r impl.Rack, years [][]impl.Book, most int64) (impl.Rack, []int64, bool) {
	var counts []int64
	for _, list := range years {
		count := int64(0)
		for _, b := range list {
			if _, needed, _ := slowAdded(r, b); needed > most {
				spread, moved := slowSpread(r)
				r, count = spread, count+moved
			}
			added, moved, can := slowAdded(r, b)
			if !can {
				return impl.Rack{}, nil, false
			}
			r, count = added, count+moved
		}
		counts = append(counts, count)
	}
	return r, counts, true
}
