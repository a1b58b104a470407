package tests

import (
	"fmt"
	"math"
	"slices"
	"strings"
	"testing"

	"loop.example/g01326/impl"
)

func TestGrowthExample(t *testing.T) {
	list := classed(100, 300)
	r, cd := impl.FillRack(5, list)
	wantResults(t, "filled", all(r.Places, booksOf(r), r.Books[0].At, r.Books[1].At, cd), int16(5), list, int16(1), int16(3), code(impl.OK))
	second, third := classed(200)[0], classed(250)[0]
	wantResults(t, "room", all(impl.RoomFor(r, second)), int64(2), int64(1), code(impl.OK))
	wantResults(t, "needs nothing", all(impl.NeedsMoved(r, second)), int64(0), code(impl.OK))
	full, moved, cd := impl.AddBook(r, second)
	wantResults(t, "added", all(impl.RackText(full), moved, cd), "5\n1 100 aaa 1 10x100 100\n2 200 aaa 1 10x100 100\n3 300 aaa 1 10x100 100\n", int64(0), code(impl.OK))
	wantResults(t, "needs one", all(impl.NeedsMoved(full, third)), int64(1), code(impl.OK))
	full, moved, cd = impl.AddBook(full, third)
	wantResults(t, "added", all(impl.RackText(full), moved, cd), "5\n1 100 aaa 1 10x100 100\n2 200 aaa 1 10x100 100\n3 250 aaa 1 10x100 100\n4 300 aaa 1 10x100 100\n", int64(1), code(impl.OK))
	r.Places = 7
	spread, moved, cd := impl.SpreadRack(r)
	wantResults(t, "spread", all(spread.Books[0].At, spread.Books[1].At, moved, cd), int16(1), int16(5), int64(1), code(impl.OK))
}

func TestGrowthConstants(t *testing.T) {
	if impl.MaxPlaces != 60 || impl.MaxYears != 20 {
		t.Error("limits", impl.MaxPlaces, impl.MaxYears)
	}
}

func TestValidRack(t *testing.T) {
	for _, r := range racksInside() {
		if !impl.ValidRack(r) || !slowValidRack(r) {
			t.Errorf("%v is not valid", r)
		}
	}
	for _, r := range racksOutside() {
		if impl.ValidRack(r) || slowValidRack(r) {
			t.Errorf("%v is valid", r)
		}
	}
	r := newRandom()
	valid := 0
	for range 20000 {
		rack := anyRack(r, 1+r.IntN(5))
		// Places and books are exchanged, so that the rack is often not valid.
		for i := range rack.Books {
			other := r.IntN(len(rack.Books))
			switch r.IntN(12) {
			case 0:
				rack.Books[i].At = int16(r.IntN(7)) - 1
			case 1:
				rack.Books[i].Book, rack.Books[other].Book = rack.Books[other].Book, rack.Books[i].Book
			}
		}
		is := slowValidRack(rack)
		if is {
			valid++
		}
		wantResults(t, fmt.Sprint(rack), all(impl.ValidRack(rack)), is)
	}
	if valid < 5000 || valid > 18000 {
		t.Errorf("%d racks of 20000 are valid", valid)
	}
}

func TestSameRack(t *testing.T) {
	racks := append(racksInside(), racksOutside()...)
	for i, a := range racks {
		for j, b := range racks {
			// What differs has another text here, but for nil and empty lists.
			want := fmt.Sprint(a) == fmt.Sprint(b)
			if got := impl.SameRack(a, b); got != want {
				t.Errorf("%d and %d: %v, want %v", i, j, got, want)
			}
		}
		b := impl.Rack{Places: a.Places, Books: slices.Clone(a.Books)}
		if !impl.SameRack(a, b) {
			t.Errorf("%v is not the same as itself", a)
		}
		for at := range b.Books {
			kept := b.Books[at]
			b.Books[at].At++
			if impl.SameRack(a, b) {
				t.Errorf("%v is the same as %v", a, b)
			}
			b.Books[at] = kept
			b.Books[at].Book.Weight++
			if impl.SameRack(a, b) {
				t.Errorf("%v is the same as %v", a, b)
			}
			b.Books[at] = kept
		}
		b.Places++
		if impl.SameRack(a, b) {
			t.Errorf("%v is the same as %v", a, b)
		}
		b.Places--
		b.Books = append(b.Books, impl.Placed{})
		if impl.SameRack(a, b) || impl.SameRack(b, a) {
			t.Errorf("%v is the same as %v", a, b)
		}
	}
}

func TestEmptyRack(t *testing.T) {
	for places := int64(1); places <= impl.MaxPlaces; places++ {
		wantRack(t, fmt.Sprint(places), all(impl.EmptyRack(places)), strings.Repeat(".", int(places)), code(impl.OK))
	}
	for _, places := range []int64{0, -1, 61, 1 << 16, 1<<16 + 5, 1 << 32, 1<<32 + 1, math.MinInt64, math.MaxInt64} {
		wantRack(t, fmt.Sprint(places), all(impl.EmptyRack(places)), "", code(impl.ErrRange))
	}
}

func TestBooksAndFreePlaces(t *testing.T) {
	for _, mask := range masks(8) {
		r := everyOther(mask)
		var free []int64
		for at, here := range mask {
			if here == '.' {
				free = append(free, int64(at))
			}
		}
		wantResults(t, mask, all(impl.FreePlaces(r)), free, code(impl.OK))
		wantResults(t, mask, all(impl.BooksIn(r)), booksOf(r), code(impl.OK))
	}
	full := rackOf(strings.Repeat("m", impl.MaxPlaces))
	wantResults(t, "full", all(impl.FreePlaces(full)), []int64(nil), code(impl.OK))
	wantResults(t, "full", all(impl.BooksIn(full)), slices.Repeat(books("m"), impl.MaxPlaces), code(impl.OK))
	wantResults(t, "by hand", all(impl.FreePlaces(rackOf("..aA.b."))), []int64{0, 1, 4, 6}, code(impl.OK))
	wantResults(t, "by hand", all(impl.BooksIn(rackOf("..aA.b."))), books("aAb"), code(impl.OK))
}

func TestRoomFor(t *testing.T) {
	type asked struct {
		rack         string
		letter       byte
		first, count int64
	}
	for _, a := range []asked{
		{".", 'b', 0, 1}, {".....", 'b', 0, 5}, {strings.Repeat(".", 60), 'b', 0, 60},
		// One book: ahead of it, equal to it, behind it.
		{"..b...", 'a', 0, 2}, {"..b...", 'b', 3, 3}, {"..b...", 'B', 3, 3}, {"..b...", 'c', 3, 3},
		// No place, ahead of the first one, or behind the last one.
		{"b..", 'a', 0, 0}, {"..b", 'c', 3, 0}, {"..b", 'b', 3, 0}, {"b", 'a', 0, 0}, {"b", 'c', 1, 0},
		// No place, one, two and more between two books.
		{"a.bd.", 'c', 3, 0}, {".b.d.", 'c', 2, 1}, {".b..d.", 'c', 2, 2}, {".b...d.", 'c', 2, 3}, {".b....d", 'c', 2, 4},
		// Behind all that are equal.
		{"b.B.b.c", 'b', 5, 1}, {"b.B.b.c", 'B', 5, 1}, {"b.B.bc.", 'B', 5, 0}, {"a.b.c", 'a', 1, 1},
		{"abcd", 'a', 1, 0}, {"abcd", 'd', 4, 0}, {"abcd", 'e', 4, 0}, {"bcd", 'a', 0, 0},
	} {
		wantResults(t, fmt.Sprintf("%s %c", a.rack, a.letter), all(impl.RoomFor(rackOf(a.rack), lettered(a.letter))), a.first, a.count, code(impl.OK))
	}
	r := newRandom()
	for range 2000 {
		rack, b := anyRack(r, 1+r.IntN(impl.MaxPlaces)), anyBook(r)
		_, first, next := slowBounds(rack, b)
		wantResults(t, fmt.Sprint(rack, b), all(impl.RoomFor(rack, b)), int64(first), int64(next-first), code(impl.OK))
	}
}

func TestTakeBook(t *testing.T) {
	for _, mask := range masks(7) {
		r := everyOther(mask)
		places := shown(r)
		for at := range places {
			if places[at] == '.' {
				wantRack(t, fmt.Sprint(places, at), all(impl.TakeBook(r, int64(at))), "", code(impl.ErrNotFound))
				continue
			}
			wantRack(t, fmt.Sprint(places, at), all(impl.TakeBook(r, int64(at))), places[:at]+"."+places[at+1:], code(impl.OK))
		}
		for _, at := range []int64{-1, int64(len(places)), 60, 1 << 16, 1 << 32, math.MinInt64, math.MaxInt64} {
			wantRack(t, fmt.Sprint(places, at), all(impl.TakeBook(r, at)), "", code(impl.ErrRange))
		}
	}
	full := strings.Repeat("m", impl.MaxPlaces)
	wantRack(t, "the last one of 60", all(impl.TakeBook(rackOf(full), 59)), full[:59]+".", code(impl.OK))
	wantRack(t, "behind the last one of 60", all(impl.TakeBook(rackOf(full), 60)), "", code(impl.ErrRange))
	wantRack(t, "of equal ones", all(impl.TakeBook(rackOf("aAa"), 1)), "a.a", code(impl.OK))
}
