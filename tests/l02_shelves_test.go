package tests

import (
	"fmt"
	"math"
	"slices"
	"testing"

	"loop.example/g01326/impl"
)

func TestShelvesExample(t *testing.T) {
	list, c := readList(t, exampleText), readCase(t, exampleCase)
	fill, best := []int64{2, 3, 3}, []int64{1, 3, 3}
	wantResults(t, "fill", all(impl.FillShelves(c, list)), fill, code(impl.OK))
	wantResults(t, "free", all(impl.FreeOn(c, list, fill)), []int64{5, 40, 60}, code(impl.OK))
	wantResults(t, "cost", all(impl.CostOf(c, list, fill)), int64(1625), code(impl.OK))
	wantResults(t, "least cost", all(impl.LeastCost(c, list)), best, int64(1325), code(impl.OK))
	wantResults(t, "free of it", all(impl.FreeOn(c, list, best)), []int64{35, 10, 60}, code(impl.OK))
	wantResults(t, "fewest", all(impl.FewestShelves(c, list)), fill, int64(2), code(impl.OK))
	wantResults(t, "where", all(impl.WhereIs(c, list, best, 2)), int64(1), int64(30), code(impl.OK))
	wantResults(t, "moved", all(impl.MovedBooks(fill, best)), int64(1), code(impl.OK))
	wantResults(t, "text", all(impl.CaseText(c)), exampleCase)
}

func TestShelfConstants(t *testing.T) {
	if impl.MaxShelves != 12 || impl.MaxShelfWide != 2000 || impl.MaxLoad != 200000 {
		t.Error("limits", impl.MaxShelves, impl.MaxShelfWide, impl.MaxLoad)
	}
}

func TestValidCase(t *testing.T) {
	for _, c := range casesInside() {
		if !impl.ValidCase(c) {
			t.Errorf("%v is not valid", c)
		}
	}
	for _, c := range casesOutside() {
		if impl.ValidCase(c) {
			t.Errorf("%v is valid", c)
		}
	}
}

func TestSameCase(t *testing.T) {
	c := impl.Case{Wide: 60, Load: 5000, Heights: []int16{250, 260, 250}}
	same := impl.Case{Wide: 60, Load: 5000, Heights: slices.Clone(c.Heights)}
	if !impl.SameCase(c, same) || !impl.SameCase(impl.Case{}, impl.Case{Heights: []int16{}}) || !impl.SameCase(impl.Case{Wide: -1, Load: -1, Heights: []int16{-1}}, impl.Case{Wide: -1, Load: -1, Heights: []int16{-1}}) {
		t.Error("the same cases are not the same")
	}
	others := []impl.Case{{}, {Wide: 61, Load: 5000, Heights: c.Heights}, {Wide: 60, Load: 5001, Heights: c.Heights}, {Wide: 60, Load: 5000 + 1<<16, Heights: c.Heights},
		{Wide: 60, Load: 5000}, {Wide: 60, Load: 5000, Heights: c.Heights[:2]}, {Wide: 60, Load: 5000, Heights: []int16{250, 250, 250}},
		{Wide: 60, Load: 5000, Heights: []int16{250, 260, 251}}, {Wide: 60, Load: 5000, Heights: []int16{250, 260, 250, 250}}}
	for _, other := range others {
		if impl.SameCase(c, other) || impl.SameCase(other, c) {
			t.Errorf("%v is the same as %v", other, c)
		}
	}
}

func TestFitsOn(t *testing.T) {
	c := impl.Case{Wide: 60, Load: 300, Heights: []int16{100, 240, 50}}
	type asked struct {
		name  string
		shelf int64
		list  []impl.Book
		want  bool
	}
	for _, a := range []asked{
		{"no books", 2, nil, true},
		{"all bounds reached", 0, []impl.Book{size(20, 100, 100), size(40, 99, 200)}, true},
		{"too wide by 1", 0, []impl.Book{size(20, 100, 100), size(41, 99, 200)}, false},
		{"too high by 1", 0, []impl.Book{size(20, 100, 100), size(40, 101, 200)}, false},
		{"the first one too high", 0, []impl.Book{size(20, 101, 100), size(40, 100, 200)}, false},
		{"too heavy by 1", 0, []impl.Book{size(20, 100, 100), size(40, 99, 201)}, false},
		{"high on a high shelf", 1, []impl.Book{size(20, 240, 100), size(40, 50, 200)}, true},
		{"too high there", 1, []impl.Book{size(20, 241, 100)}, false},
		{"low on the low shelf", 2, []impl.Book{size(20, 50, 100)}, true},
		{"high on the low shelf", 2, []impl.Book{size(20, 51, 100)}, false},
		{"one too wide for all", 1, []impl.Book{size(61, 50, 1)}, false},
		{"one too heavy for all", 1, []impl.Book{size(1, 50, 301)}, false},
	} {
		wantResults(t, a.name, all(impl.FitsOn(c, a.shelf, a.list)), a.want, code(impl.OK))
	}
	// 60 books of the greatest width and weight are far beyond, 60 least ones are not.
	great := impl.Case{Wide: 2000, Load: 200000, Heights: []int16{1000}}
	wantResults(t, "greatest", all(impl.FitsOn(great, 0, slices.Repeat([]impl.Book{size(100, 400, 9999)}, impl.MaxBooks))), false, code(impl.OK))
	wantResults(t, "20 greatest", all(impl.FitsOn(great, 0, slices.Repeat([]impl.Book{size(100, 400, 9999)}, 20))), true, code(impl.OK))
	wantResults(t, "21 greatest", all(impl.FitsOn(great, 0, slices.Repeat([]impl.Book{size(100, 400, 1)}, 21))), false, code(impl.OK))
	wantResults(t, "21 heaviest", all(impl.FitsOn(great, 0, slices.Repeat([]impl.Book{size(1, 400, 9999)}, 21))), false, code(impl.OK))
	wantResults(t, "least", all(impl.FitsOn(great, 0, slices.Repeat([]impl.Book{size(1, 50, 1)}, impl.MaxBooks))), true, code(impl.OK))
}

func TestFitsOnErrors(t *testing.T) {
	c := impl.Case{Wide: 60, Load: 300, Heights: []int16{100, 240}}
	for _, shelf := range []int64{-1, 2, 12, 1 << 32, math.MinInt64, math.MaxInt64} {
		wantResults(t, fmt.Sprint(shelf), all(impl.FitsOn(c, shelf, wides(1))), false, code(impl.ErrRange))
		wantResults(t, fmt.Sprint(shelf, " for no books"), all(impl.FitsOn(c, shelf, nil)), false, code(impl.ErrRange))
		wantResults(t, fmt.Sprint(shelf, " of a bad case"), all(impl.FitsOn(impl.Case{}, shelf, nil)), false, code(impl.ErrInvalid))
		wantResults(t, fmt.Sprint(shelf, " for bad books"), all(impl.FitsOn(c, shelf, []impl.Book{{}})), false, code(impl.ErrInvalid))
	}
}

// TestFilled is of promise 4: filled shelves are a layout, and each one has room for no further book.
func TestFilled(t *testing.T) {
	r := newRandom()
	filled, left := 0, 0
	for round := range 3000 {
		c := anyCase(r, 1+round%impl.MaxShelves)
		list := smallBooks(r, r.IntN(1+min(impl.MaxBooks, 4*len(c.Heights))))
		ends, cd := impl.FillShelves(c, list)
		if cd == impl.ErrNotFound {
			left++
			wantLeftBehind(t, c, list)
			continue
		}
		filled++
		wantResults(t, "a layout", all(impl.CheckLayout(c, list, ends)), true, code(impl.OK))
		if cd != impl.OK || slowBad(c, list, ends) >= 0 {
			t.Fatalf("code %d: %v is no layout of %v on %v", cd, ends, list, c)
		}
		before := int64(0)
		for shelf, end := range ends {
			if end < int64(len(list)) && slowFits(c, shelf, list[before:end+1]) {
				t.Errorf("%v: shelf %d has room for a further one of %v on %v", ends, shelf, list, c)
			}
			before = end
		}
	}
	if filled < 300 || left < 300 {
		t.Errorf("%d filled, %d left", filled, left)
	}
}

// wantLeftBehind checks that books are left, however many of the first ones are tried.
func wantLeftBehind(t *testing.T, c impl.Case, list []impl.Book) {
	t.Helper()
	from := 0
	for shelf := range c.Heights {
		many := 0
		for many < len(list)-from && slowFits(c, shelf, list[from:from+many+1]) {
			many++
		}
		from += many
	}
	if from == len(list) {
		t.Errorf("no books of %v are left behind %v", list, c)
	}
}

func TestFillShelves(t *testing.T) {
	c := impl.Case{Wide: 10, Load: 100, Heights: []int16{100, 200, 100, 200}}
	none := []int64(nil)
	wantResults(t, "no books", all(impl.FillShelves(c, nil)), []int64{0, 0, 0, 0}, code(impl.OK))
	wantResults(t, "no books, one shelf", all(impl.FillShelves(impl.Case{Wide: 1, Load: 1, Heights: []int16{50}}, []impl.Book{})), []int64{0}, code(impl.OK))
	wantResults(t, "all on the first", all(impl.FillShelves(c, wides(4, 6))), []int64{2, 2, 2, 2}, code(impl.OK))
	wantResults(t, "the width is reached", all(impl.FillShelves(c, wides(4, 6, 9, 1, 1))), []int64{2, 4, 5, 5}, code(impl.OK))
	wantResults(t, "one more is not", all(impl.FillShelves(c, wides(4, 7, 9, 2, 1))), []int64{1, 2, 3, 5}, code(impl.OK))
	heavy := []impl.Book{size(1, 100, 60), size(1, 100, 40), size(1, 100, 61), size(1, 100, 40), size(1, 100, 60)}
	wantResults(t, "the load is reached", all(impl.FillShelves(c, heavy)), []int64{2, 3, 5, 5}, code(impl.OK))
	high := []impl.Book{size(1, 200, 1), size(1, 100, 1), size(1, 201, 1)}
	wantResults(t, "the first shelf stays empty", all(impl.FillShelves(c, high[:2])), []int64{0, 2, 2, 2}, code(impl.OK))
	wantResults(t, "high ones pass by low shelves", all(impl.FillShelves(c, []impl.Book{size(10, 200, 1), size(10, 200, 1)})), []int64{0, 1, 1, 2}, code(impl.OK))
	wantResults(t, "too high for all", all(impl.FillShelves(c, high)), none, code(impl.ErrNotFound))
	wantResults(t, "too high for all, the only one", all(impl.FillShelves(c, high[2:])), none, code(impl.ErrNotFound))
	wantResults(t, "too wide for all", all(impl.FillShelves(c, wides(11))), none, code(impl.ErrNotFound))
	wantResults(t, "too heavy for all", all(impl.FillShelves(c, []impl.Book{size(1, 50, 101)})), none, code(impl.ErrNotFound))
	wantResults(t, "four", all(impl.FillShelves(c, wides(10, 10, 10, 10))), []int64{1, 2, 3, 4}, code(impl.OK))
	wantResults(t, "five", all(impl.FillShelves(c, wides(10, 10, 10, 10, 1))), none, code(impl.ErrNotFound))
	great := impl.Case{Wide: 500, Load: 200000, Heights: slices.Repeat([]int16{400}, 12)}
	fives := []int64{5, 10, 15, 20, 25, 30, 35, 40, 45, 50, 55, 60}
	wantResults(t, "all limits", all(impl.FillShelves(great, slices.Repeat([]impl.Book{size(100, 400, 9999)}, impl.MaxBooks))), fives, code(impl.OK))
}

// nearNumbers returns layouts and lists of numbers that are nearly some.
func nearNumbers(c impl.Case, list []impl.Book) [][]int64 {
	many := int64(len(list))
	lists := [][]int64{nil, {}, {many}, {-1}, {math.MinInt64, math.MaxInt64}, slices.Repeat([]int64{many}, 20), slices.Repeat([]int64{0}, len(c.Heights))}
	for _, ends := range layouts(c, list) {
		lists = append(lists, ends, ends[:len(ends)-1], append(slices.Clone(ends), many), append(slices.Clone(ends), 0), append([]int64{0}, ends...))
		for i := range ends {
			for _, n := range []int64{-1, 0, ends[i] - 1, ends[i] + 1, many, many + 1, ends[i] + 1<<32, math.MinInt64, math.MaxInt64} {
				other := slices.Clone(ends)
				other[i] = n
				lists = append(lists, other)
			}
		}
	}
	return lists
}

func TestCheckLayout(t *testing.T) {
	r := newRandom()
	layoutsSeen, others := 0, 0
	for round := range 200 {
		c := anyCase(r, 1+round%4)
		list := smallBooks(r, r.IntN(5))
		for _, ends := range nearNumbers(c, list) {
			name := fmt.Sprint(ends, " of ", list, " on ", c)
			bad := slowBad(c, list, ends)
			wantResults(t, "check "+name, all(impl.CheckLayout(c, list, ends)), bad < 0, code(impl.OK))
			if bad < 0 {
				layoutsSeen++
				wantResults(t, "bad "+name, all(impl.FirstBadShelf(c, list, ends)), int64(0), code(impl.ErrNotFound))
				continue
			}
			others++
			wantResults(t, "bad "+name, all(impl.FirstBadShelf(c, list, ends)), bad, code(impl.OK))
			wantNoLayout(t, name, c, list, ends)
		}
	}
	if layoutsSeen < 500 || others < 5000 {
		t.Errorf("%d layouts, %d others", layoutsSeen, others)
	}
}

// wantNoLayout checks that all functions with a layout tell that numbers are none, ahead of other errors.
func wantNoLayout(t *testing.T, name string, c impl.Case, list []impl.Book, ends []int64) {
	t.Helper()
	proof := code(impl.ErrProof)
	wantResults(t, "free "+name, all(impl.FreeOn(c, list, ends)), []int64(nil), proof)
	wantResults(t, "cost "+name, all(impl.CostOf(c, list, ends)), int64(0), proof)
	wantResults(t, "used "+name, all(impl.UsedShelves(c, list, ends)), int64(0), proof)
	for _, n := range []int64{0, -1, 100} {
		wantResults(t, "where "+name, all(impl.WhereIs(c, list, ends, n)), int64(0), int64(0), proof)
		wantResults(t, "at "+name, all(impl.BookAt(c, list, ends, n, 0)), int64(0), proof)
		wantResults(t, "at "+name, all(impl.BookAt(c, list, ends, 0, n)), int64(0), proof)
		wantResults(t, "class "+name, all(impl.ShelfOfClass(c, list, ends, n)), int64(0), int64(0), proof)
	}
}

func TestFirstBadShelf(t *testing.T) {
	c := impl.Case{Wide: 10, Load: 100, Heights: []int16{100, 50, 100}}
	list := wides(5, 5, 5)
	type asked struct {
		name string
		ends []int64
		want int64
	}
	for _, a := range []asked{
		{"no numbers", nil, 0},
		{"too few", []int64{2}, 1},
		{"too few, though all books stand", []int64{2, 2}, 2},
		{"the first less than 0", []int64{-1, 2, 3}, 0},
		{"numbers that fall", []int64{2, 1, 3}, 1},
		{"numbers that fall last", []int64{2, 2, 1}, 2},
		{"more than there are books", []int64{2, 2, 4}, 2},
		{"more than there are books, first", []int64{4, 4, 4}, 0},
		{"too wide", []int64{3, 3, 3}, 0},
		{"too high", []int64{1, 2, 3}, 1},
		{"too wide, the last one", []int64{0, 0, 3}, 2},
		{"books left behind", []int64{2, 2, 2}, 3},
		{"none stands", []int64{0, 0, 0}, 3},
		{"too many", []int64{2, 2, 3, 3}, 3},
		{"too many, and books left behind", []int64{2, 2, 2, 3}, 3},
		{"too many, and a bad one ahead", []int64{2, 3, 3, 3}, 1},
		{"too many, the last one falling", []int64{2, 2, 3, 0}, 3},
	} {
		wantResults(t, a.name, all(impl.FirstBadShelf(c, list, a.ends)), a.want, code(impl.OK))
		wantResults(t, a.name, all(impl.CheckLayout(c, list, a.ends)), false, code(impl.OK))
		wantNoLayout(t, a.name, c, list, a.ends)
	}
	for _, ends := range [][]int64{{2, 2, 3}, {1, 1, 3}} {
		wantResults(t, "a layout", all(impl.FirstBadShelf(c, list, ends)), int64(0), code(impl.ErrNotFound))
		wantResults(t, "a layout", all(impl.CheckLayout(c, list, ends)), true, code(impl.OK))
	}
	wantResults(t, "of no books", all(impl.FirstBadShelf(c, nil, []int64{0, 0, 0})), int64(0), code(impl.ErrNotFound))
	wantResults(t, "of no books, one too many", all(impl.FirstBadShelf(c, nil, []int64{0, 0, 1})), int64(2), code(impl.OK))
}

func TestMeasures(t *testing.T) {
	r := newRandom()
	for round := range 300 {
		c := anyCase(r, 1+round%4)
		list := smallBooks(r, r.IntN(7))
		for _, ends := range layouts(c, list) {
			name := fmt.Sprint(ends, " of ", list, " on ", c)
			free, _ := slowFree(c, list, ends)
			wantResults(t, "free "+name, all(impl.FreeOn(c, list, ends)), free, code(impl.OK))
			wantResults(t, "cost "+name, all(impl.CostOf(c, list, ends)), slowCost(c, list, ends), code(impl.OK))
			wantResults(t, "used "+name, all(impl.UsedShelves(c, list, ends)), slowUsed(c, list, ends), code(impl.OK))
		}
	}
}

func TestMeasuresOfEmptyShelves(t *testing.T) {
	c := impl.Case{Wide: 2000, Load: 100, Heights: slices.Repeat([]int16{100}, 12)}
	nothing := make([]int64, 12)
	wantResults(t, "free, no books", all(impl.FreeOn(c, nil, nothing)), slices.Repeat([]int64{2000}, 12), code(impl.OK))
	wantResults(t, "cost, no books", all(impl.CostOf(c, nil, nothing)), int64(0), code(impl.OK))
	wantResults(t, "used, no books", all(impl.UsedShelves(c, nil, nothing)), int64(0), code(impl.OK))
	list := wides(1, 1, 1, 1, 1, 1, 1, 1, 1, 1, 1, 1)
	single := []int64{1, 2, 3, 4, 5, 6, 7, 8, 9, 10, 11, 12}
	wantResults(t, "the greatest cost", all(impl.CostOf(c, list, single)), int64(12*1999*1999), code(impl.OK))
	wantResults(t, "all used", all(impl.UsedShelves(c, list, single)), int64(12), code(impl.OK))
	between := []int64{0, 0, 5, 5, 5, 10, 10, 12, 12, 12, 12, 12}
	wantResults(t, "empty ones between", all(impl.UsedShelves(c, list, between)), int64(3), code(impl.OK))
	wantResults(t, "cost of them", all(impl.CostOf(c, list, between)), int64(2*1995*1995+1998*1998), code(impl.OK))
	full := impl.Case{Wide: 3, Load: 100, Heights: []int16{100, 100, 100}}
	wantResults(t, "nothing free", all(impl.CostOf(full, list[:6], []int64{3, 3, 6})), int64(0), code(impl.OK))
	wantResults(t, "nothing free, used", all(impl.UsedShelves(full, list[:6], []int64{3, 3, 6})), int64(2), code(impl.OK))
	wantResults(t, "nothing free, on each", all(impl.FreeOn(full, list[:6], []int64{3, 3, 6})), []int64{0, 3, 0}, code(impl.OK))
}
