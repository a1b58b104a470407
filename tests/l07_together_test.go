package tests

import (
	"math/rand/v2"
	"slices"
	"strings"
	"testing"

	"loop.example/g01326/impl"
)

// The functions here are of promise 17: moves, layouts, racks, labels and catalogues agree on one list of books. Each one checks a list, which stands as it does on a shelf, against its catalogue, which is the same list sorted.

// wantSameStock checks that a list has the books of a catalogue, by the program and apart from it.
func wantSameStock(t *testing.T, name string, catalogue, list []impl.Book) {
	t.Helper()
	wantResults(t, name, all(impl.SameStock(catalogue, list)), true, code(impl.OK))
	if !sameCounts(catalogue, list) {
		t.Errorf("%s: %v has other books than %v", name, list, catalogue)
	}
}

// wantMovesAgree: the list is moved and swapped into the order of the catalogue, with as many moves as books are out of place.
func wantMovesAgree(t *testing.T, catalogue, list []impl.Book) {
	t.Helper()
	moves, _ := impl.MovesFor(list)
	moved, cd := impl.MoveAll(list, moves)
	if cd != impl.OK || len(moved) != len(catalogue) {
		t.Fatalf("code %d: %v is moved to %v", cd, list, moved)
	}
	wantSameStock(t, "moved", catalogue, moved)
	for i := range moved {
		if slowCompare(usual, moved[i], catalogue[i]) != 0 {
			t.Errorf("%v is moved to %v, and its catalogue is %v", list, moved, catalogue)
		}
	}
	out, _ := impl.OutOfPlace(list)
	least, _ := impl.LeastMoves(list)
	wantResults(t, "slips", all(impl.FewestSlips(catalogue, list)), int64(len(moves)), code(impl.OK))
	wantResults(t, "out of place", all(int64(len(out)), least), int64(len(moves)), int64(len(moves)))
	// Slips and a proof by labels agree as well.
	labels, _ := impl.LabelsOf(list)
	wantResults(t, "bound", all(impl.LabelBound(list, labels)), int64(len(moves)), code(impl.OK))
	swaps, _ := impl.SwapsFor(list)
	wantResults(t, "swapped", all(impl.SwapAll(list, swaps)), catalogue, code(impl.OK))
	if slip, cd := impl.OneSlip(catalogue, list); cd == impl.OK {
		wantResults(t, "slip", all(impl.MoveBook(list, slip)), catalogue, code(impl.OK))
	}
	if swap, cd := impl.OneSwap(catalogue, list); cd == impl.OK {
		wantResults(t, "swap", all(impl.SwapAll(list, []impl.Move{swap})), catalogue, code(impl.OK))
	}
}

// wantPlacesAgree: each book of the list stands in the catalogue where it should, which is where SortBooks puts it.
func wantPlacesAgree(t *testing.T, catalogue, list []impl.Book) {
	t.Helper()
	places, cd := impl.RightPlaces(catalogue, list)
	if cd != impl.OK {
		t.Fatalf("code %d: places of %v", cd, list)
	}
	var want []int64
	for _, at := range slowPlaces(list) {
		want = append(want, int64(at))
	}
	wantResults(t, "places", all(places), want)
	out, _ := impl.OutOfPlace(list)
	rest, _ := impl.WithoutBooks(list, out)
	wantResults(t, "rest", all(impl.IsSorted(rest)), true, code(impl.OK))
	missing, cd := impl.MissingBooks(catalogue, rest)
	var taken []impl.Book
	for _, at := range out {
		taken = append(taken, list[at])
	}
	wantSameStock(t, "what is missing then", missing, taken)
	both, _ := impl.MergeBooks(rest, missing)
	wantSameStock(t, "both", catalogue, both)
	wantResults(t, "codes", all(cd), code(impl.OK))
}

// readLayout returns the books as they stand on the shelves of a case, each one found from west to east.
func readLayout(c impl.Case, list []impl.Book, ends []int64) []impl.Book {
	var read []impl.Book
	for shelf := range int64(len(c.Heights)) {
		for west := int64(0); west < int64(c.Wide); {
			at, cd := impl.BookAt(c, list, ends, shelf, west)
			if cd != impl.OK {
				break
			}
			read = append(read, list[at])
			west += int64(list[at].Wide)
		}
	}
	return read
}

// wantLayoutsAgree: the catalogue stands on the shelves of a case as it is, the books are found there, and each class between its first and its last book.
func wantLayoutsAgree(t *testing.T, catalogue []impl.Book) {
	t.Helper()
	c := impl.Case{Wide: 800, Load: impl.MaxLoad, Heights: slices.Repeat([]int16{400}, impl.MaxShelves)}
	filled, cd := impl.FillShelves(c, catalogue)
	best, cost, other := impl.LeastCost(c, catalogue)
	if cd != impl.OK || other != impl.OK {
		t.Fatalf("codes %d and %d: %v does not fit", cd, other, catalogue)
	}
	table, _ := impl.TableOf(c, catalogue)
	wantResults(t, "cost", all(impl.ProvedCost(c, catalogue, table)), cost, code(impl.OK))
	for _, ends := range [][]int64{filled, best} {
		read := readLayout(c, catalogue, ends)
		wantResults(t, "read", all(read), catalogue)
		wantResults(t, "report of a layout", all(impl.ReportOf(catalogue, read)), "", code(impl.OK))
		for _, b := range catalogue {
			low, high, _ := impl.ClassRange(catalogue, int64(b.Class), int64(b.Class))
			first, _, _ := impl.WhereIs(c, catalogue, ends, low)
			last, _, _ := impl.WhereIs(c, catalogue, ends, high-1)
			wantResults(t, "shelves of a class", all(impl.ShelfOfClass(c, catalogue, ends, int64(b.Class))), first, last, code(impl.OK))
		}
	}
}

// wantRacksAgree: the catalogue spread over a rack, and the list added to one book by book, are the catalogue.
func wantRacksAgree(t *testing.T, catalogue, list []impl.Book) {
	t.Helper()
	filled, cd := impl.FillRack(impl.MaxPlaces, catalogue)
	wantResults(t, "filled", all(booksOf(filled), cd), catalogue, code(impl.OK))
	empty, _ := impl.EmptyRack(impl.MaxPlaces)
	added, _, cd := impl.AddAll(empty, list)
	wantResults(t, "added", all(booksOf(added), cd), catalogue, code(impl.OK))
	wantResults(t, "apart", all(impl.MoveApart(filled, filled)), int64(0), code(impl.OK))
	spread, _, _ := impl.SpreadRack(added)
	wantResults(t, "spread", all(impl.SameRack(spread, filled)), true)
	in, _ := impl.BooksIn(added)
	wantResults(t, "report of a rack", all(impl.ReportOf(catalogue, in)), "", code(impl.OK))
	if len(list) > 0 {
		less, _ := impl.TakeBook(filled, int64(filled.Books[0].At))
		in, _ = impl.BooksIn(less)
		wantResults(t, "report of a rack without its first book", all(impl.ReportOf(catalogue, in)), "missing "+slowLabel(catalogue[0])+"\n", code(impl.OK))
	}
}

// wantLabelsAgree: what the label of each book says is found in the catalogue, and on the shelf.
func wantLabelsAgree(t *testing.T, catalogue, list []impl.Book) {
	t.Helper()
	var stops []int64
	for _, b := range list {
		class, mark, volume, cd := impl.ReadLabel(impl.LabelOf(b))
		at, other := impl.FindBook(catalogue, class, mark, volume)
		if cd != impl.OK || other != impl.OK {
			t.Fatalf("codes %d and %d: %v", cd, other, b)
		}
		wantResults(t, "the same book", all(impl.CompareBooks(b, catalogue[at])), int64(0))
		wantResults(t, "found", all(impl.WalkTo(catalogue, []impl.Book{b})), []int64{at}, code(impl.OK))
		stops = append(stops, at)
	}
	// The shortest walk from the first book is along the catalogue.
	walk, length, cd := impl.ShortestWalk(stops, 0)
	wantResults(t, "walk", all(walk, cd), slices.Sorted(slices.Values(stops)), code(impl.OK))
	if len(walk) > 0 {
		wantResults(t, "walk", all(length), walk[len(walk)-1])
	}
	wantResults(t, "all of the list", all(impl.WalkTo(list, list)), countUp(len(list)), code(impl.OK))
}

// countUp returns the numbers from 0 on that are less than count.
func countUp(count int) []int64 {
	var numbers []int64
	for n := range int64(count) {
		numbers = append(numbers, n)
	}
	return numbers
}

// wantHeightsAgree: books that are parted by their height, or grouped by it, are those of the catalogue.
func wantHeightsAgree(t *testing.T, catalogue []impl.Book) {
	t.Helper()
	low, tall, cd := impl.SplitBooks(catalogue, 250)
	both, other := impl.MergeBooks(low, tall)
	wantResults(t, "codes", all(cd, other), code(impl.OK), code(impl.OK))
	wantSameStock(t, "both", catalogue, both)
	missing, _ := impl.MissingBooks(catalogue, low)
	wantResults(t, "missing beside the low ones", all(missing), tall)
	p := impl.Pegs{Low: 100, Step: 50, Board: 20}
	heights, _ := impl.HeightsOf(p, catalogue)
	if len(heights) == 0 || len(heights) > impl.MaxHeights {
		return
	}
	groups, cd := impl.GroupBooks(p, heights, catalogue)
	wantResults(t, "groups", all(slices.Sorted(slices.Values(slices.Concat(groups...))), cd), countUp(len(catalogue)), code(impl.OK))
}

// wantDesksAgree: books that are lent are missing on the shelf, and no others.
func wantDesksAgree(t *testing.T, catalogue []impl.Book, books ...int) {
	t.Helper()
	d, _ := impl.EmptyDesk(int64(len(catalogue)))
	var away []impl.Book
	for who, book := range books {
		after, _, cd := impl.ApplyAct(d, impl.Act{What: impl.AcLend, Who: int8(who), Book: int8(book)})
		if cd != impl.OK {
			t.Fatalf("code %d: %d is not lent to %d", cd, book, who)
		}
		d, away = after, append(away, catalogue[book])
	}
	dummies, _ := impl.Dummies(d)
	rest, cd := impl.WithoutBooks(catalogue, dummies)
	missing, other := impl.MissingBooks(catalogue, rest)
	wantResults(t, "codes", all(cd, other), code(impl.OK), code(impl.OK))
	wantSameStock(t, "lent", missing, away)
	wantResults(t, "in place", all(impl.OutOfPlace(rest)), []int64(nil), code(impl.OK))
	report, _ := impl.ReportOf(catalogue, rest)
	wantResults(t, "lines", all(strings.Count(report, "missing "), strings.Count(report, "\n")), len(books), len(books))
}

// wantAllAgree takes a list through all chapters.
func wantAllAgree(t *testing.T, r *rand.Rand, list []impl.Book) {
	t.Helper()
	catalogue, cd := impl.SortBooks(usual, list)
	wantResults(t, "catalogue", all(catalogue, cd), slowSort(usual, list), code(impl.OK))
	read, _ := impl.ReadBooks(impl.BooksText(list))
	wantResults(t, "read", all(impl.SameBooks(read, list)), true)
	wantSameStock(t, "list", catalogue, list)
	wantMovesAgree(t, catalogue, list)
	wantPlacesAgree(t, catalogue, list)
	wantLayoutsAgree(t, catalogue)
	wantRacksAgree(t, catalogue, list)
	wantLabelsAgree(t, catalogue, list)
	wantHeightsAgree(t, catalogue)
	wantDesksAgree(t, catalogue, r.Perm(len(catalogue))[:min(len(catalogue), 9)]...)
	report, _ := impl.ReportOf(catalogue, list)
	out, _ := impl.OutOfPlace(list)
	wantResults(t, "only out of place", all(strings.Count(report, "place "), strings.Count(report, "\n")), len(out), len(out))
}

// TestAllAgree is of promise 17, for lists with many equal books and with few, from none to MaxBooks.
func TestAllAgree(t *testing.T) {
	r := newRandom()
	for count := range impl.MaxBooks + 1 {
		list := anyBooks(r, count)
		wantAllAgree(t, r, list)
		for i := range list {
			list[i] = anyLabelled(r)
		}
		wantAllAgree(t, r, list)
		for i := range list {
			list[i] = pickOf(r, lookalikes(int16(r.IntN(4)))...)
		}
		wantAllAgree(t, r, list)
		wantAllAgree(t, r, displaced(r, slowSort(usual, append(list, plain)[:max(1, count)])))
	}
}

// TestExampleThroughAll is of promise 17: the list of the example of chapter 1 is moved into order, laid out on shelves, spread over a rack, labelled, lent, and checked against its catalogue.
func TestExampleThroughAll(t *testing.T) {
	list := readList(t, exampleText)
	moves, _ := impl.MovesFor(list)
	catalogue, cd := impl.MoveAll(list, moves)
	wantResults(t, "moved", all(impl.MovesText(moves), impl.BooksText(catalogue), cd), "0>2", "100 ari 2 30x200 500\n513 ari 1 20x210 300\n513 euc 1 25x240 800\n", code(impl.OK))
	c := readCase(t, exampleCase)
	ends, cost, cd := impl.LeastCost(c, catalogue)
	wantResults(t, "layout", all(impl.LayoutText(ends), cost, cd), "1,3,3", int64(30*30+15*15), code(impl.OK))
	wantResults(t, "on the shelves", all(readLayout(c, catalogue, ends)), catalogue)
	wantResults(t, "where", all(impl.WhereIs(c, catalogue, ends, 2)), int64(1), int64(20), code(impl.OK))
	r, cd := impl.FillRack(7, catalogue)
	wantResults(t, "rack", all(impl.RackText(r), cd), "7\n1 100 ari 2 30x200 500\n3 513 ari 1 20x210 300\n5 513 euc 1 25x240 800\n", code(impl.OK))
	var labels []string
	for _, b := range catalogue {
		labels = append(labels, impl.LabelOf(b))
	}
	wantResults(t, "labels", all(labels), []string{"100ari023", "513ari012", "513euc013"})
	wantResults(t, "slip", all(impl.OneSlip(catalogue, list)), impl.Move{From: 0, To: 2}, code(impl.OK))
	wantResults(t, "places", all(impl.RightPlaces(catalogue, list)), []int64{2, 0, 1}, code(impl.OK))
	wantResults(t, "report", all(impl.ReportOf(catalogue, list)), "place 0 513euc013\n", code(impl.OK))
	d, _ := impl.EmptyDesk(3)
	d = applied(t, d, acts("lend 7 1"))
	dummies, _ := impl.Dummies(d)
	rest, _ := impl.WithoutBooks(catalogue, dummies)
	wantResults(t, "report of what is not lent", all(impl.ReportOf(catalogue, rest)), "missing 513ari012\n", code(impl.OK))
	wantResults(t, "report of all as they should be", all(impl.ReportOf(catalogue, catalogue)), "", code(impl.OK))
	wantDesksAgree(t, catalogue, 2, 0)
	wantAllAgree(t, newRandom(), list)
	wantResults(t, "heaviest", all(impl.HeaviestShelf(catalogue, 50)), int64(1), int64(2), int64(1100), code(impl.OK))
	wantResults(t, "walk", all(impl.WalkTo(catalogue, list)), []int64{2, 0, 1}, code(impl.OK))
	wantResults(t, "shortest", all(impl.ShortestWalk([]int64{2, 0, 1}, 1)), []int64{0, 1, 2}, int64(3), code(impl.OK))
}
