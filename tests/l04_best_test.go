package tests

import (
	"fmt"
	"math"
	"math/rand/v2"
	"slices"
	"testing"

	"loop.example/g01326/impl"
)

// TestBestOfAll is of promise 10: none of all lists of as many needed heights wastes less than the best one; of several ones the first is told.
func TestBestOfAll(t *testing.T) {
	r := newRandom()
	several, severalLong := 0, 0
	for round := range 1500 {
		p := impl.Pegs{Low: 50, Step: pickOf[int16](r, 5, 10, 10, 10, 20), Board: 1}
		list := anyHighBooks(r, r.IntN(13), 2+round%9)
		needed := slowNeeded(p, list)
		for count := 1; count <= impl.MaxHeights; count++ {
			name := fmt.Sprint(count, p, list)
			if len(needed) < count {
				wantResults(t, name, all(impl.BestHeights(p, list, int64(count))), []int64(nil), int64(0), code(impl.ErrNotFound))
				continue
			}
			best, waste, ways := slowLeast(choicesOf(needed, count), list)
			wantResults(t, name, all(impl.BestHeights(p, list, int64(count))), best, waste, code(impl.OK))
			wantResults(t, "waste of "+name, all(impl.WasteOf(p, best, list)), waste, code(impl.OK))
			if ways > 1 {
				several++
			}
			if ways > 2 && count > 2 {
				severalLong++
			}
		}
	}
	if several < 500 || severalLong < 100 {
		t.Errorf("%d with several best lists, %d with more, and longer ones", several, severalLong)
	}
}

// TestNoHeightsWasteLess is of promise 10: heights that no book needs do not waste less, either.
func TestNoHeightsWasteLess(t *testing.T) {
	r := newRandom()
	tried := 0
	for range 3000 {
		p := anyPegs(r)
		list := anyHighBooks(r, 1+r.IntN(impl.MaxBooks), 1+r.IntN(31))
		heights := anyHeights(r, p, 1+r.IntN(impl.MaxHeights))
		waste, cd := impl.WasteOf(p, heights, list)
		needed, _ := impl.HeightsOf(p, list)
		if cd != impl.OK || len(needed) < len(heights) {
			continue
		}
		tried++
		best, least, bestCode := impl.BestHeights(p, list, int64(len(heights)))
		if bestCode != impl.OK || least > waste {
			t.Errorf("%v waste %d, but the best ones, %v, waste %d: %v of %v", heights, waste, best, least, list, p)
		}
		wantResults(t, "valid", all(impl.ValidHeights(p, best), len(best)), true, len(heights))
	}
	if tried < 300 {
		t.Errorf("%d heights tried", tried)
	}
}

// anyHeights returns at most count valid heights for pegs.
func anyHeights(r *rand.Rand, p impl.Pegs, count int) []int64 {
	var heights []int64
	for range count {
		heights = append(heights, pickOf(r, slowHeights(p)...))
	}
	slices.Sort(heights)
	return slices.Compact(heights)
}

// TestOneHeightMore has the guarantee that with one height more the waste is no greater.
func TestOneHeightMore(t *testing.T) {
	r := newRandom()
	for round := range 500 {
		p := anyPegs(r)
		list := anyHighBooks(r, 1+r.IntN(impl.MaxBooks), 1+round%31)
		needed, _ := impl.HeightsOf(p, list)
		before := int64(math.MaxInt64)
		for count := 1; count <= min(len(needed), impl.MaxHeights); count++ {
			heights, waste, cd := impl.BestHeights(p, list, int64(count))
			if cd != impl.OK || waste > before {
				t.Errorf("code %d: %v waste %d, one height less %d", cd, heights, waste, before)
			}
			before = waste
			if count == impl.MaxHeights {
				break
			}
			if _, with, cd := impl.AddHeight(p, heights, list); cd == impl.OK && with > waste {
				t.Errorf("%v waste %d, with one height more %d", heights, waste, with)
			}
		}
	}
}

// TestSeveralBestHeights has lists with the same waste: the first one of them is told.
func TestSeveralBestHeights(t *testing.T) {
	type asked struct {
		name  string
		list  []impl.Book
		best  []int64
		waste int64
	}
	steps := highs(100, 110, 120, 130, 140, 150, 160)
	for _, a := range []asked{
		{"100 or 110, with 120", highs(100, 110, 120), []int64{100, 120}, 10},
		{"the same, not in order", highs(110, 120, 100), []int64{100, 120}, 10},
		{"one only", highs(120, 110, 100), []int64{120}, 30},
		{"all", highs(120, 110, 100), []int64{100, 110, 120}, 0},
		{"a wider book", sized([2]int16{1, 100}, [2]int16{2, 110}, [2]int16{1, 120}), []int64{110, 120}, 10},
		{"two of four", highs(100, 110, 120, 130), []int64{110, 130}, 20},
		{"three of four", highs(100, 110, 120, 130), []int64{100, 110, 130}, 10},
		{"three of five", highs(100, 110, 120, 130, 140), []int64{100, 120, 140}, 20},
		{"four of seven", steps, []int64{100, 120, 140, 160}, 30},
		{"five of seven", steps, []int64{100, 110, 120, 140, 160}, 20},
		{"six of seven", steps, []int64{100, 110, 120, 130, 140, 160}, 10},
		{"two of seven", steps, []int64{120, 160}, 90},
		{"the second one decides", highs(100, 100, 100, 110, 120, 130), []int64{100, 110, 130}, 10},
	} {
		wantResults(t, a.name, all(impl.BestHeights(tenths, a.list, int64(len(a.best)))), a.best, a.waste, code(impl.OK))
		needed, _ := impl.HeightsOf(tenths, a.list)
		best, waste, _ := slowLeast(choicesOf(needed, len(a.best)), a.list)
		wantResults(t, a.name+", apart from the program", all(best, waste), a.best, a.waste)
	}
}

func TestBestHeights(t *testing.T) {
	for count := int64(1); count <= impl.MaxHeights; count++ {
		wantResults(t, "no books", all(impl.BestHeights(tenths, nil, count)), []int64(nil), int64(0), code(impl.ErrNotFound))
	}
	wantResults(t, "one book", all(impl.BestHeights(tenths, sized([2]int16{3, 95}), 1)), []int64{100}, int64(15), code(impl.OK))
	wantResults(t, "one book, two heights", all(impl.BestHeights(tenths, highs(95), 2)), []int64(nil), int64(0), code(impl.ErrNotFound))
	wantResults(t, "equal ones", all(impl.BestHeights(tenths, highs(95, 95, 95), 1)), []int64{100}, int64(15), code(impl.OK))
	wantResults(t, "equal ones, two heights", all(impl.BestHeights(tenths, highs(95, 95, 95), 2)), []int64(nil), int64(0), code(impl.ErrNotFound))
	wantResults(t, "equal needs", all(impl.BestHeights(tenths, highs(91, 100, 95), 2)), []int64(nil), int64(0), code(impl.ErrNotFound))
	wantResults(t, "exactly as high", all(impl.BestHeights(tenths, highs(100, 200), 2)), []int64{100, 200}, int64(0), code(impl.OK))
	six := highs(100, 120, 130, 150, 160, 190)
	wantResults(t, "as many as are allowed", all(impl.BestHeights(tenths, six, 6)), []int64{100, 120, 130, 150, 160, 190}, int64(0), code(impl.OK))
	wantResults(t, "one more", all(impl.BestHeights(tenths, append(six, highs(200)...), 7)), []int64(nil), int64(0), code(impl.ErrRange))
	wantResults(t, "less than Low", all(impl.BestHeights(impl.Pegs{Low: 400, Step: 100, Board: 1}, highs(50, 400), 1)), []int64{400}, int64(350), code(impl.OK))
}

// TestGreatestWaste has what wastes most, and 60 heights.
func TestGreatestWaste(t *testing.T) {
	p := impl.Pegs{Low: 399, Step: 100, Board: 1}
	low := slices.Repeat(sized([2]int16{100, 50}), impl.MaxBooks-1)
	wantResults(t, "greatest waste", all(impl.BestHeights(p, append(low, size(100, 400, 1)), 1)), []int64{499}, int64(59*100*449+100*99), code(impl.OK))
	var each []impl.Book
	for i := range impl.MaxBooks {
		each = append(each, size(1, int16(101+5*i), 1))
	}
	ones := impl.Pegs{Low: 50, Step: 1, Board: 1}
	// Six rows of ten books waste 5 times the sum from 1 to 9 each.
	tens := []int64{146, 196, 246, 296, 346, 396}
	wantResults(t, "six of 60", all(impl.BestHeights(ones, each, 6)), tens, int64(6*5*45), code(impl.OK))
}

func TestBestHeightsErrors(t *testing.T) {
	list := readList(t, exampleText)
	for _, count := range []int64{0, -1, 7, 60, 1 << 32, 1<<32 + 1, math.MinInt64, math.MaxInt64} {
		name := fmt.Sprint(count)
		wantResults(t, name, all(impl.BestHeights(examplePegs, list, count)), []int64(nil), int64(0), code(impl.ErrRange))
		wantResults(t, name+" for no books", all(impl.BestHeights(examplePegs, nil, count)), []int64(nil), int64(0), code(impl.ErrRange))
	}
	for count := int64(4); count <= impl.MaxHeights; count++ {
		wantResults(t, fmt.Sprint(count), all(impl.BestHeights(examplePegs, list, count)), []int64(nil), int64(0), code(impl.ErrNotFound))
	}
}

// slowAdd returns by the document's words the height that is best added, and the waste with it.
func slowAdd(p impl.Pegs, heights []int64, list []impl.Book) (int64, int64, int64) {
	add, least, cd := int64(0), int64(0), code(impl.ErrNotFound)
	for _, high := range slowNeeded(p, list) {
		if slices.Contains(heights, high) {
			continue
		}
		waste, held := slowWaste(append([]int64{high}, heights...), list)
		if held && (cd != impl.OK || waste < least) {
			add, least, cd = high, waste, impl.OK
		}
	}
	return add, least, cd
}

func TestAddedHeights(t *testing.T) {
	r := newRandom()
	added, none := 0, 0
	for round := range 4000 {
		p := impl.Pegs{Low: 50, Step: pickOf[int16](r, 10, 20, 50), Board: 1}
		list := anyHighBooks(r, r.IntN(10), 2+round%8)
		heights := slices.DeleteFunc(anyHeights(r, p, 1+r.IntN(5)), func(high int64) bool { return high > 250 && r.IntN(3) > 0 })
		if len(heights) == 0 {
			continue
		}
		add, waste, cd := slowAdd(p, heights, list)
		name := fmt.Sprint(p, heights, list)
		wantResults(t, name, all(impl.AddHeight(p, heights, list)), add, waste, cd)
		if cd != impl.OK {
			none++
			continue
		}
		added++
		both := append(slices.Clone(heights), add)
		slices.Sort(both)
		wantResults(t, name, all(impl.WasteOf(p, both, list)), waste, code(impl.OK))
	}
	if added < 1000 || none < 300 {
		t.Errorf("%d added, %d not", added, none)
	}
}

func TestAddHeight(t *testing.T) {
	type asked struct {
		name       string
		heights    []int64
		list       []impl.Book
		add, waste int64
		code       int64
	}
	six := []int64{100, 110, 120, 130, 140, 150}
	for _, a := range []asked{
		{"no books", []int64{100}, nil, 0, 0, impl.ErrNotFound},
		{"one book, that is held", []int64{120}, highs(95), 100, 5, impl.OK},
		{"one book, held with no waste", []int64{100}, highs(100), 0, 0, impl.ErrNotFound},
		{"one book, whose height is there", []int64{100}, highs(95), 0, 0, impl.ErrNotFound},
		{"one book, that is not held", []int64{90}, highs(95), 100, 5, impl.OK},
		{"equal ones", []int64{200}, highs(95, 95, 95), 100, 15, impl.OK},
		{"100 or 110", []int64{120}, highs(100, 110, 120), 100, 10, impl.OK},
		{"100 or 110, not in order", []int64{120}, highs(120, 110, 100), 100, 10, impl.OK},
		{"110 is better", []int64{120}, highs(100, 110, 110, 120), 110, 10, impl.OK},
		{"between two others", []int64{100, 130}, highs(100, 110, 120, 130), 110, 10, impl.OK},
		{"only the highest", []int64{110}, highs(100, 110, 120, 130), 130, 10 + 10, impl.OK},
		{"only the highest, of one more", []int64{100}, highs(100, 110, 110, 120), 120, 20, impl.OK},
		{"as many as are allowed behind it", six[:5], highs(100, 110, 120, 130, 140, 150), 150, 0, impl.OK},
		{"as many as are allowed", six, highs(100, 110, 120, 130, 140, 160), 0, 0, impl.ErrLimit},
		{"as many as are allowed, no books", six, nil, 0, 0, impl.ErrLimit},
		{"a height that no book needs", []int64{1000}, highs(400), 400, 0, impl.OK},
		{"all needed ones are there", []int64{100, 150, 200}, highs(150, 91, 200), 0, 0, impl.ErrNotFound},
	} {
		wantResults(t, a.name, all(impl.AddHeight(tenths, a.heights, a.list)), a.add, a.waste, a.code)
	}
}

// TestSideBySide asks often for what is tried side by side: the first one is told, whichever is done first.
func TestSideBySide(t *testing.T) {
	list := highs(100, 110, 120, 130, 140, 150, 160, 170, 180, 190, 200)
	for range 3000 {
		wantResults(t, "add", all(impl.AddHeight(tenths, []int64{200}, list)), int64(140), int64(250), code(impl.OK))
		wantResults(t, "lowest", all(impl.LowestCase(tenths, evenBooks(), 10)), []int64{110}, int64(250), code(impl.OK))
	}
}
