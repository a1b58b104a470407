package tests

import (
	"fmt"
	"math"
	"runtime"
	"slices"
	"testing"
	"time"

	"loop.example/g01326/impl"
)

// evenBooks need shelves of 110 and of 50: two of 110, or one of 110 and two of 50, which are as tall on the pegs tenths if they are 10 wide.
func evenBooks() []impl.Book { return sized([2]int16{6, 50}, [2]int16{6, 50}, [2]int16{4, 110}) }

// widthsOf returns the widths of the books of a group.
func widthsOf(list []impl.Book, group []int64) []int64 {
	var widths []int64
	for _, book := range group {
		widths = append(widths, int64(list[book].Wide))
	}
	return widths
}

// TestNeededAndBound compares shelves with those of a slow filling, and the bound with a search of all fillings: fewer are never enough.
func TestNeededAndBound(t *testing.T) {
	r := newRandom()
	counted, refused := 0, 0
	for range 1500 {
		p := impl.Pegs{Low: 50, Step: pickOf[int16](r, 10, 50), Board: 1}
		list := anyHighBooks(r, r.IntN(8), 8)
		heights := pickOf(r, choicesOf([]int64{100, 150, 200, 250}, 1+r.IntN(3))...)
		wide := int64(3 + r.IntN(4))
		name := fmt.Sprint(p, heights, list, wide)
		groups, held := slowGroups(heights, list)
		needed, cd := impl.ShelvesNeeded(p, heights, list, wide)
		bound, boundCode := impl.ShelvesBound(p, heights, list, wide)
		if !held {
			refused++
			wantResults(t, name, all(needed, cd, bound, boundCode), []int64(nil), code(impl.ErrNotFound), []int64(nil), code(impl.ErrNotFound))
			continue
		}
		counted++
		wantResults(t, name, all(needed, cd, boundCode), slowShelves(heights, list, wide), code(impl.OK), code(impl.OK))
		for i, group := range groups {
			widths := widthsOf(list, group)
			fewest := fewestShelves(widths, wide)
			sum := int64(0)
			for _, width := range widths {
				sum += width
			}
			if bound[i]*wide < sum || (bound[i]-1)*wide >= sum && sum > 0 || sum == 0 && bound[i] != 0 {
				t.Errorf("%s: bound %d for %d", name, bound[i], sum)
			}
			if fewest < bound[i] || needed[i] < fewest {
				t.Errorf("%s: %d needed, %d are enough, the bound is %d", name, needed[i], fewest, bound[i])
			}
		}
	}
	if counted < 500 || refused < 200 {
		t.Errorf("%d counted, %d refused", counted, refused)
	}
}

func TestShelvesNeeded(t *testing.T) {
	type asked struct {
		name          string
		widths        []int16
		needed, bound int64
	}
	for _, a := range []asked{
		{"no books", nil, 0, 0},
		{"one book", []int16{1}, 1, 1},
		{"as wide as the shelf", []int16{10}, 1, 1},
		{"all as wide as the shelf", []int16{10, 10, 10}, 3, 3},
		{"one full shelf", []int16{4, 6}, 1, 1},
		{"wider by 1", []int16{4, 7}, 2, 2},
		{"on an earlier shelf, not the last one", []int16{6, 7, 4, 3}, 2, 2},
		{"on the first one with room, not the fullest one", []int16{5, 7, 2, 5}, 3, 2},
		{"in their order, not the widest ones first", []int16{2, 5, 7, 5}, 3, 2},
		{"no two on one shelf", []int16{6, 6, 6, 6, 6}, 5, 3},
		{"the last one beside the first one", []int16{9, 10, 10, 1}, 3, 3},
		{"least ones", slices.Repeat([]int16{1}, 60), 6, 6},
		{"least ones, one less", slices.Repeat([]int16{1}, 51), 6, 6},
		{"least ones, one less again", slices.Repeat([]int16{1}, 50), 5, 5},
	} {
		wantResults(t, a.name, all(impl.ShelvesNeeded(tenths, []int64{100}, wides(a.widths...), 10)), []int64{a.needed}, code(impl.OK))
		wantResults(t, a.name, all(impl.ShelvesBound(tenths, []int64{100}, wides(a.widths...), 10)), []int64{a.bound}, code(impl.OK))
	}
	great := slices.Repeat([]impl.Book{size(100, 400, 1)}, impl.MaxBooks)
	for wide, count := range map[int64]int64{100: 60, 199: 60, 200: 30, 1999: 4, 2000: 3} {
		wantResults(t, fmt.Sprint(wide), all(impl.ShelvesNeeded(tenths, []int64{50, 400, 1000}, great, wide)), []int64{0, count, 0}, code(impl.OK))
	}
}

// TestShelvesOfEachHeight has books of several heights between each other: each one is put on a shelf of its own height.
func TestShelvesOfEachHeight(t *testing.T) {
	list := sized([2]int16{6, 100}, [2]int16{5, 60}, [2]int16{4, 95}, [2]int16{5, 51}, [2]int16{6, 60}, [2]int16{1, 100})
	wantResults(t, "needed", all(impl.ShelvesNeeded(tenths, []int64{60, 80, 100, 120}, list, 10)), []int64{2, 0, 2, 0}, code(impl.OK))
	wantResults(t, "bound", all(impl.ShelvesBound(tenths, []int64{60, 80, 100, 120}, list, 10)), []int64{2, 0, 2, 0}, code(impl.OK))
	wantResults(t, "needed, one height", all(impl.ShelvesNeeded(tenths, []int64{100}, list, 10)), []int64{3}, code(impl.OK))
	wantResults(t, "bound, one height", all(impl.ShelvesBound(tenths, []int64{100}, list, 10)), []int64{3}, code(impl.OK))
}

// TestShelvesErrors has the order of the errors of both functions that count shelves.
func TestShelvesErrors(t *testing.T) {
	list := sized([2]int16{10, 100}, [2]int16{11, 200})
	for _, count := range []func(impl.Pegs, []int64, []impl.Book, int64) ([]int64, int64){impl.ShelvesNeeded, impl.ShelvesBound} {
		want := func(name string, p impl.Pegs, heights []int64, list []impl.Book, wide, cd int64) {
			t.Helper()
			wantResults(t, name, all(count(p, heights, list, wide)), []int64(nil), cd)
		}
		for _, wide := range []int64{0, -1, 2001, 1 << 16, 1<<32 + 10, math.MinInt64, math.MaxInt64} {
			want("width", tenths, []int64{100, 200}, list, wide, impl.ErrRange)
			want("width, and a book too high", tenths, []int64{100}, list, wide, impl.ErrRange)
			want("width for no books", tenths, []int64{100}, nil, wide, impl.ErrRange)
			want("pegs", impl.Pegs{}, []int64{100}, list, wide, impl.ErrInvalid)
			want("heights", tenths, []int64{101}, list, wide, impl.ErrInvalid)
			want("books", tenths, []int64{100}, []impl.Book{{}}, wide, impl.ErrInvalid)
		}
		want("too high", tenths, []int64{100}, list, 11, impl.ErrNotFound)
		want("too high and too wide", tenths, []int64{100}, list, 10, impl.ErrNotFound)
		want("too high, and another one too wide", tenths, []int64{190}, list, 9, impl.ErrNotFound)
		want("too wide by 1", tenths, []int64{100, 200}, list, 10, impl.ErrState)
		want("the first one too wide", tenths, []int64{100, 200}, list[:1], 9, impl.ErrState)
		wantResults(t, "just as wide", all(count(tenths, []int64{100, 200}, list, 11)), []int64{1, 1}, code(impl.OK))
	}
}

func TestTallOf(t *testing.T) {
	p := examplePegs
	none := []int64{0, 0, 0, 0, 0, 0}
	six := []int64{900, 920, 940, 960, 980, 1000}
	wantResults(t, "no shelves", all(impl.TallOf(p, []int64{240}, []int64{0})), int64(10), code(impl.OK))
	wantResults(t, "no shelves of six heights", all(impl.TallOf(p, six, none)), int64(10), code(impl.OK))
	wantResults(t, "one shelf", all(impl.TallOf(p, []int64{240}, []int64{1})), int64(260), code(impl.OK))
	wantResults(t, "each one by itself", all(impl.TallOf(p, []int64{200, 240, 1000}, []int64{3, 0, 2})), int64(3*210+2*1010+10), code(impl.OK))
	greatest := impl.Pegs{Low: 400, Step: 100, Board: 100}
	wantResults(t, "the greatest case", all(impl.TallOf(greatest, []int64{500, 600, 700, 800, 900, 1000}, slices.Repeat([]int64{60}, 6))), int64(60*(4500+600)+100), code(impl.OK))
	r := newRandom()
	for range 500 {
		q := anyPegs(r)
		heights := anyHeights(r, q, 1+r.IntN(impl.MaxHeights))
		shelves := shelfNumbers(r, heights, impl.MaxBooks)
		wantResults(t, fmt.Sprint(q, heights, shelves), all(impl.TallOf(q, heights, shelves)), slowTall(q, heights, shelves), code(impl.OK))
	}
	for _, bad := range [][]int64{nil, {}, {1}, {1, 1, 1}, {-1, 1}, {1, -1}, {61, 1}, {1, 61}, {1 << 32, 1}, {1, math.MinInt64}, {math.MaxInt64, 1}} {
		name := fmt.Sprint(bad)
		wantResults(t, name, all(impl.TallOf(p, []int64{200, 240}, bad)), int64(0), code(impl.ErrRange))
		wantResults(t, name+" of bad heights", all(impl.TallOf(p, []int64{200, 230}, bad)), int64(0), code(impl.ErrInvalid))
		wantResults(t, name+" of bad pegs", all(impl.TallOf(impl.Pegs{}, []int64{200, 240}, bad)), int64(0), code(impl.ErrInvalid))
	}
	wantResults(t, "60 shelves", all(impl.TallOf(p, []int64{200, 240}, []int64{60, 60})), int64(60*460+10), code(impl.OK))
}

// slowLowest tells by the document's words which heights make the lowest case, how tall it is, and which numbers of heights do so.
func slowLowest(p impl.Pegs, list []impl.Book, wide int64) ([]int64, int64, []int) {
	var best []int64
	var lowest int64
	var counts []int
	needed := slowNeeded(p, list)
	for count := 1; count <= min(len(needed), impl.MaxHeights); count++ {
		heights, _, _ := slowLeast(choicesOf(needed, count), list)
		tall := slowTall(p, heights, slowShelves(heights, list, wide))
		if best == nil || tall < lowest {
			best, lowest, counts = heights, tall, nil
		}
		if tall == lowest {
			counts = append(counts, count)
		}
	}
	return best, lowest, counts
}

func TestLowestOfAll(t *testing.T) {
	r := newRandom()
	even, each := 0, map[int]int{}
	for round := range 6000 {
		p := impl.Pegs{Low: 50, Step: 10, Board: pickOf[int16](r, 1, 10, 10, 100)}
		list := anyHighBooks(r, 1+r.IntN(12), 1+round%8)
		for i := range list {
			list[i].High -= 50
		}
		wide := int64(3 + r.IntN(3))
		best, lowest, counts := slowLowest(p, list, wide)
		wantResults(t, fmt.Sprint(p, list, wide), all(impl.LowestCase(p, list, wide)), best, lowest, code(impl.OK))
		each[len(best)]++
		if len(counts) > 1 {
			even++
		}
	}
	if even < 50 || len(each) < 5 {
		t.Errorf("%d equally tall ones, numbers of heights %v", even, each)
	}
}

func TestLowestCase(t *testing.T) {
	wantResults(t, "as tall with two heights", all(impl.LowestCase(tenths, evenBooks(), 10)), []int64{110}, int64(250), code(impl.OK))
	wantResults(t, "two of them", all(impl.TallOf(tenths, []int64{50, 110}, []int64{2, 1})), int64(250), code(impl.OK))
	thin := impl.Pegs{Low: 50, Step: 10, Board: 9}
	wantResults(t, "lower with two heights", all(impl.LowestCase(thin, evenBooks(), 10)), []int64{50, 110}, int64(2*59+119+9), code(impl.OK))
	thick := impl.Pegs{Low: 50, Step: 10, Board: 11}
	wantResults(t, "lower with one height", all(impl.LowestCase(thick, evenBooks(), 10)), []int64{110}, int64(2*121+11), code(impl.OK))
	wantResults(t, "all on one shelf", all(impl.LowestCase(tenths, highs(50, 60, 70, 80), 2000)), []int64{80}, int64(100), code(impl.OK))
	wantResults(t, "one book", all(impl.LowestCase(tenths, highs(395), 1)), []int64{400}, int64(420), code(impl.OK))
	wantResults(t, "equal heights", all(impl.LowestCase(tenths, highs(395, 395, 395), 2)), []int64{400}, int64(830), code(impl.OK))
	apart := sized([2]int16{9, 50}, [2]int16{9, 100}, [2]int16{9, 150}, [2]int16{9, 200}, [2]int16{9, 250}, [2]int16{9, 300}, [2]int16{9, 350})
	wantResults(t, "a shelf for each of six", all(impl.LowestCase(tenths, apart[:6], 10)), []int64{50, 100, 150, 200, 250, 300}, int64(1050+60+10), code(impl.OK))
	wantResults(t, "at most six heights", all(impl.LowestCase(tenths, apart, 10)), []int64{50, 100, 150, 200, 250, 350}, int64(50+100+150+200+250+350+350+70+10), code(impl.OK))
}

func TestLowestCaseErrors(t *testing.T) {
	list := readList(t, exampleText)
	want := func(name string, p impl.Pegs, list []impl.Book, wide, cd int64) {
		t.Helper()
		wantResults(t, name, all(impl.LowestCase(p, list, wide)), []int64(nil), int64(0), cd)
	}
	for _, wide := range []int64{0, -1, 2001, 1 << 16, 1<<32 + 40, math.MinInt64, math.MaxInt64} {
		want("width", examplePegs, list, wide, impl.ErrRange)
		want("width for no books", examplePegs, nil, wide, impl.ErrRange)
		want("pegs", impl.Pegs{}, list, wide, impl.ErrInvalid)
		want("books", examplePegs, []impl.Book{{}}, wide, impl.ErrInvalid)
	}
	want("no books", examplePegs, nil, 40, impl.ErrNotFound)
	want("no books, narrow", examplePegs, []impl.Book{}, 1, impl.ErrNotFound)
	want("a book too wide", examplePegs, list, 29, impl.ErrState)
	want("all books too wide", examplePegs, list, 1, impl.ErrState)
	if _, _, cd := impl.LowestCase(examplePegs, list, 30); cd != impl.OK {
		t.Errorf("just as wide: code %d", cd)
	}
	if _, _, cd := impl.LowestCase(examplePegs, list, 2000); cd != impl.OK {
		t.Errorf("the greatest width: code %d", cd)
	}
}

func TestCaseFrom(t *testing.T) {
	type asked struct {
		name       string
		shelves    []int64
		wide, load int64
		want       impl.Case
	}
	for _, a := range []asked{
		{"the greatest height first", []int64{1, 2, 1}, 40, 5000, impl.Case{Wide: 40, Load: 5000, Heights: []int16{1000, 240, 240, 200}}},
		{"none of one height", []int64{1, 0, 2}, 1, 1, impl.Case{Wide: 1, Load: 1, Heights: []int16{1000, 1000, 200}}},
		{"one shelf", []int64{0, 1, 0}, 2000, 200000, impl.Case{Wide: 2000, Load: 200000, Heights: []int16{240}}},
		{"as many as are allowed", []int64{0, 12, 0}, 40, 5000, impl.Case{Wide: 40, Load: 5000, Heights: slices.Repeat([]int16{240}, 12)}},
		{"as many as are allowed in all", []int64{5, 1, 6}, 40, 5000, impl.Case{Wide: 40, Load: 5000, Heights: []int16{1000, 1000, 1000, 1000, 1000, 1000, 240, 200, 200, 200, 200, 200}}},
	} {
		wantResults(t, a.name, all(impl.CaseFrom(examplePegs, []int64{200, 240, 1000}, a.shelves, a.wide, a.load)), a.want, code(impl.OK))
		if !impl.ValidCase(a.want) {
			t.Errorf("%s: %v is not valid", a.name, a.want)
		}
	}
	six := []int64{200, 220, 240, 260, 280, 300}
	wantResults(t, "six heights", all(impl.CaseFrom(examplePegs, six, []int64{2, 2, 2, 2, 2, 2}, 40, 5000)),
		impl.Case{Wide: 40, Load: 5000, Heights: []int16{300, 300, 280, 280, 260, 260, 240, 240, 220, 220, 200, 200}}, code(impl.OK))
}

func TestCaseFromErrors(t *testing.T) {
	three := []int64{200, 240, 1000}
	want := func(name string, heights, shelves []int64, wide, load, cd int64) {
		t.Helper()
		wantResults(t, name, all(impl.CaseFrom(examplePegs, heights, shelves, wide, load)), impl.Case{}, cd)
		wantResults(t, name+", bad pegs", all(impl.CaseFrom(impl.Pegs{}, heights, shelves, wide, load)), impl.Case{}, code(impl.ErrInvalid))
	}
	limits := [][]int64{{0, 0, 0}, {12, 1, 0}, {1, 0, 12}, {5, 4, 4}, {12, 12, 12}}
	for _, shelves := range limits {
		want(fmt.Sprint(shelves), three, shelves, 40, 5000, impl.ErrLimit)
		want("bad heights", []int64{200, 230, 1000}, shelves, 40, 5000, impl.ErrInvalid)
	}
	for _, shelves := range append(limits, []int64{1, 1, 1}) {
		for _, wide := range []int64{0, -1, 2001, 1<<16 + 40, math.MinInt64, math.MaxInt64} {
			want(fmt.Sprint("width ", wide), three, shelves, wide, 5000, impl.ErrRange)
		}
		for _, load := range []int64{0, -1, 200001, 1<<32 + 5000, math.MinInt64, math.MaxInt64} {
			want(fmt.Sprint("load ", load), three, shelves, 40, load, impl.ErrRange)
		}
	}
	for _, shelves := range [][]int64{nil, {}, {1, 1}, {1, 1, 1, 1}, {13, 0, 0}, {0, 0, 13}, {1, -1, 1}, {1, -1, 13}, {1 << 32, 0, 1}, {0, math.MinInt64, 1}, {math.MaxInt64, 1, 1}} {
		want(fmt.Sprint(shelves), three, shelves, 40, 5000, impl.ErrRange)
		want("bad heights", nil, shelves, 40, 5000, impl.ErrInvalid)
	}
}

// TestCaseOfShelvesNeeded is of promises 4 and 9: on a case from as many shelves as all books need, the books of each height are filled in, and each shelf has room for no further book.
func TestCaseOfShelvesNeeded(t *testing.T) {
	r := newRandom()
	filled := 0
	for range 500 {
		list := anyHighBooks(r, 1+r.IntN(12), 6)
		heights, _, cd := impl.LowestCase(tenths, list, 4)
		shelves, _ := impl.ShelvesNeeded(tenths, heights, list, 4)
		c, caseCode := impl.CaseFrom(tenths, heights, shelves, 4, 5000)
		if cd != impl.OK || caseCode != impl.OK {
			continue
		}
		groups, _ := impl.GroupBooks(tenths, heights, list)
		for i, group := range groups {
			var books []impl.Book
			for _, book := range group {
				books = append(books, list[book])
			}
			own, ownCode := impl.CaseFrom(tenths, heights[i:i+1], []int64{impl.MaxShelves}, 4, 5000)
			ends, endsCode := impl.FillShelves(own, books)
			wantResults(t, "codes", all(ownCode, endsCode), code(impl.OK), code(impl.OK))
			wantFull(t, own, books, ends)
			filled++
		}
		wantResults(t, "shelves", all(len(c.Heights), impl.ValidCase(c)), sumOf(shelves), true)
	}
	if filled < 200 {
		t.Errorf("%d filled", filled)
	}
}

// sumOf returns the sum of numbers of shelves.
func sumOf(numbers []int64) int {
	sum := 0
	for _, n := range numbers {
		sum += int(n)
	}
	return sum
}

// wantFull checks that filled shelves are a layout, and that each one has room for no further book.
func wantFull(t *testing.T, c impl.Case, list []impl.Book, ends []int64) {
	t.Helper()
	if slowBad(c, list, ends) >= 0 {
		t.Errorf("%v is no layout of %v on %v", ends, list, c)
		return
	}
	before := int64(0)
	for shelf, end := range ends {
		if end < int64(len(list)) && slowFits(c, shelf, list[before:end+1]) {
			t.Errorf("%v: shelf %d has room for a further one of %v on %v", ends, shelf, list, c)
		}
		before = end
	}
}

// TestNothingGoesOn is of promise 1: nothing that a call has begun goes on behind it.
func TestNothingGoesOn(t *testing.T) {
	before := runtime.NumGoroutine()
	for range 200 {
		impl.AddHeight(tenths, []int64{50}, highs(100, 110, 120, 130, 140))
		impl.AddHeight(tenths, []int64{400}, highs(100, 110, 120, 130, 140))
		impl.LowestCase(tenths, highs(100, 110, 120, 130, 140, 150), 3)
	}
	for range 500 {
		if runtime.NumGoroutine() <= before {
			return
		}
		time.Sleep(10 * time.Millisecond)
	}
	t.Errorf("%d goroutines, %d before", runtime.NumGoroutine(), before)
}
