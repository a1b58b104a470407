package tests

import (
	"fmt"
	"math"
	"slices"
	"testing"

	"loop.example/g01326/impl"
)

func TestHeightsExample(t *testing.T) {
	list, p := readList(t, exampleText), examplePegs
	wantResults(t, "heights", all(impl.HeightsOf(p, list)), []int64{200, 220, 240}, code(impl.OK))
	wantResults(t, "waste", all(impl.WasteOf(p, []int64{220, 240}, list)), int64(800), code(impl.OK))
	wantResults(t, "best", all(impl.BestHeights(p, list, 2)), []int64{200, 240}, int64(600), code(impl.OK))
	wantResults(t, "waste of one", all(impl.WasteOf(p, []int64{240}, list)), int64(1800), code(impl.OK))
	wantResults(t, "best one", all(impl.BestHeights(p, list, 1)), []int64{240}, int64(1800), code(impl.OK))
	wantResults(t, "shelves", all(impl.ShelvesNeeded(p, []int64{200, 240}, list, 40)), []int64{1, 2}, code(impl.OK))
	wantResults(t, "tall", all(impl.TallOf(p, []int64{200, 240}, []int64{1, 2})), int64(720), code(impl.OK))
	wantResults(t, "lowest", all(impl.LowestCase(p, list, 40)), []int64{200, 220, 240}, int64(700), code(impl.OK))
}

func TestHeightConstants(t *testing.T) {
	if impl.MaxHeights != 6 {
		t.Error("limit", impl.MaxHeights)
	}
}

func TestValidPegs(t *testing.T) {
	for _, p := range pegsInside() {
		if !impl.ValidPegs(p) {
			t.Errorf("%v are not valid", p)
		}
	}
	for _, p := range pegsOutside() {
		if impl.ValidPegs(p) {
			t.Errorf("%v are valid", p)
		}
	}
}

func TestValidHeights(t *testing.T) {
	for _, heights := range heightsInside() {
		if !impl.ValidHeights(examplePegs, heights) {
			t.Errorf("%v are not valid", heights)
		}
		for _, p := range pegsOutside() {
			if impl.ValidHeights(p, heights) {
				t.Errorf("%v are valid for %v", heights, p)
			}
		}
	}
	for _, heights := range heightsOutside() {
		if impl.ValidHeights(examplePegs, heights) {
			t.Errorf("%v are valid", heights)
		}
	}
}

// TestEachHeight tries all numbers as the only height, as the greater of two, and as the lesser.
func TestEachHeight(t *testing.T) {
	for _, p := range pegsInside() {
		allowed := slowHeights(p)
		least, greatest := allowed[0], allowed[len(allowed)-1]
		for high := int64(-120); high < 1200; high++ {
			is := slices.Contains(allowed, high)
			wantResults(t, fmt.Sprint(p, high), all(impl.ValidHeights(p, []int64{high})), is)
			wantResults(t, fmt.Sprint(p, least, high), all(impl.ValidHeights(p, []int64{least, high})), is && high > least)
			wantResults(t, fmt.Sprint(p, high, greatest), all(impl.ValidHeights(p, []int64{high, greatest})), is && high < greatest)
		}
	}
}

func TestPegFor(t *testing.T) {
	for _, p := range pegsInside() {
		for high := range int64(1001) {
			want, cd := slowPeg(p, high), code(impl.OK)
			if want < 0 {
				want, cd = 0, impl.ErrNotFound
			}
			wantResults(t, fmt.Sprint(p, high), all(impl.PegFor(p, high)), want, cd)
		}
		for _, high := range []int64{-1, 1001, -200, 1 << 16, 1 << 32, math.MinInt64, math.MaxInt64} {
			wantResults(t, fmt.Sprint(p, high), all(impl.PegFor(p, high)), int64(0), code(impl.ErrRange))
		}
	}
	for _, p := range pegsOutside() {
		for _, high := range []int64{0, 200, 1000, -1, 1001} {
			wantResults(t, fmt.Sprint(p, high), all(impl.PegFor(p, high)), int64(0), code(impl.ErrInvalid))
		}
	}
}

// TestGreatestPegs has pegs that just reach 1000, and such that miss it by 1 to either side.
func TestGreatestPegs(t *testing.T) {
	type asked struct {
		p          impl.Pegs
		high, want int64
		code       int64
	}
	for _, a := range []asked{
		{impl.Pegs{Low: 50, Step: 19, Board: 1}, 1000, 1000, impl.OK},
		{impl.Pegs{Low: 50, Step: 19, Board: 1}, 982, 1000, impl.OK},
		{impl.Pegs{Low: 50, Step: 19, Board: 1}, 981, 981, impl.OK},
		{impl.Pegs{Low: 51, Step: 19, Board: 1}, 1000, 0, impl.ErrNotFound},
		{impl.Pegs{Low: 51, Step: 19, Board: 1}, 982, 982, impl.OK},
		{impl.Pegs{Low: 51, Step: 19, Board: 1}, 983, 0, impl.ErrNotFound},
		{impl.Pegs{Low: 400, Step: 100, Board: 1}, 901, 1000, impl.OK},
		{impl.Pegs{Low: 50, Step: 100, Board: 1}, 950, 950, impl.OK},
		{impl.Pegs{Low: 50, Step: 100, Board: 1}, 951, 0, impl.ErrNotFound},
		{impl.Pegs{Low: 400, Step: 1, Board: 1}, 0, 400, impl.OK},
		{impl.Pegs{Low: 400, Step: 1, Board: 1}, 400, 400, impl.OK},
		{impl.Pegs{Low: 400, Step: 1, Board: 1}, 401, 401, impl.OK},
		{examplePegs, 0, 200, impl.OK},
		{examplePegs, 220, 220, impl.OK},
		{examplePegs, 221, 240, impl.OK},
	} {
		wantResults(t, fmt.Sprint(a), all(impl.PegFor(a.p, a.high)), a.want, a.code)
	}
	if !impl.ValidHeights(impl.Pegs{Low: 50, Step: 19, Board: 1}, []int64{50, 981, 1000}) || impl.ValidHeights(impl.Pegs{Low: 51, Step: 19, Board: 1}, []int64{51, 1001}) {
		t.Error("the greatest height is 1000")
	}
}

func TestHeightsOf(t *testing.T) {
	r := newRandom()
	for _, list := range [][]impl.Book{nil, {}} {
		wantResults(t, "no books", all(impl.HeightsOf(examplePegs, list)), []int64(nil), code(impl.OK))
	}
	wantResults(t, "one book", all(impl.HeightsOf(examplePegs, highs(201))), []int64{220}, code(impl.OK))
	wantResults(t, "exactly as high", all(impl.HeightsOf(examplePegs, highs(220))), []int64{220}, code(impl.OK))
	wantResults(t, "equal heights", all(impl.HeightsOf(examplePegs, highs(240, 240, 240))), []int64{240}, code(impl.OK))
	wantResults(t, "equal needs", all(impl.HeightsOf(examplePegs, highs(240, 221, 200, 50, 230))), []int64{200, 240}, code(impl.OK))
	wantResults(t, "the highest", all(impl.HeightsOf(impl.Pegs{Low: 399, Step: 100, Board: 1}, highs(400))), []int64{499}, code(impl.OK))
	for range 400 {
		p, list := anyPegs(r), anyHighBooks(r, r.IntN(12), 31)
		wantResults(t, fmt.Sprint(p, list), all(impl.HeightsOf(p, list)), slowNeeded(p, list), code(impl.OK))
	}
	each := make([]impl.Book, 0, impl.MaxBooks)
	for i := range impl.MaxBooks {
		each = append(each, size(100, int16(400-i), 1))
	}
	wantResults(t, "60 heights", all(impl.HeightsOf(impl.Pegs{Low: 50, Step: 1, Board: 1}, each)), slowHeights(impl.Pegs{Low: 50, Step: 1})[291:351], code(impl.OK))
}

// TestHomes is of promise 9: each book belongs to a height that is high enough, and to none that is lesser.
func TestHomes(t *testing.T) {
	r := newRandom()
	held, tooHigh := 0, 0
	for range 3000 {
		p := anyPegs(r)
		list := anyHighBooks(r, r.IntN(9), 31)
		heights := pickOf(r, choicesOf(slowHeights(impl.Pegs{Low: p.Low, Step: 100}), 1+r.IntN(3))...)
		if p.Step != 100 {
			p.Step = pickOf[int16](r, 1, 5, 10, 20, 50) // of all of these 100 is some times the step
		}
		name := fmt.Sprint(p, heights, list)
		for _, b := range list {
			home, cd := impl.HeightFor(p, heights, b)
			if slowHome(heights, b) < 0 {
				tooHigh++
				wantResults(t, name, all(home, cd), int64(0), code(impl.ErrNotFound))
				continue
			}
			held++
			wantResults(t, name, all(cd), code(impl.OK))
			wantHome(t, heights, home, b)
		}
		wantGroups(t, name, p, heights, list)
	}
	if held < 1000 || tooHigh < 500 {
		t.Errorf("%d books held, %d too high", held, tooHigh)
	}
}

// wantGroups checks groups and waste against those by the document's words, and that each book is in one group.
func wantGroups(t *testing.T, name string, p impl.Pegs, heights []int64, list []impl.Book) {
	t.Helper()
	groups, held := slowGroups(heights, list)
	waste, _ := slowWaste(heights, list)
	cd := code(impl.OK)
	if !held {
		cd = impl.ErrNotFound
	}
	wantResults(t, "waste "+name, all(impl.WasteOf(p, heights, list)), waste, cd)
	got, gotCode := impl.GroupBooks(p, heights, list)
	wantResults(t, "code "+name, all(gotCode, len(got)), cd, len(groups))
	seen := 0
	for i, group := range got {
		seen += len(group)
		if !slices.Equal(group, groups[i]) {
			t.Errorf("%s: %v belong to %d, want %v", name, group, heights[i], groups[i])
		}
		for _, book := range group {
			wantHome(t, heights, heights[i], list[book])
		}
	}
	if held && seen != len(list) {
		t.Errorf("%s: %d books belong to heights", name, seen)
	}
}

func TestHeightFor(t *testing.T) {
	three := []int64{200, 240, 1000}
	type asked struct {
		high int16
		want int64
	}
	for _, a := range []asked{{50, 200}, {199, 200}, {200, 200}, {201, 240}, {239, 240}, {240, 240}, {241, 1000}, {400, 1000}} {
		wantResults(t, fmt.Sprint(a), all(impl.HeightFor(examplePegs, three, size(1, a.high, 1))), a.want, code(impl.OK))
	}
	wantResults(t, "just held", all(impl.HeightFor(examplePegs, three[:2], size(1, 240, 1))), int64(240), code(impl.OK))
	wantResults(t, "higher by 1", all(impl.HeightFor(examplePegs, three[:2], size(1, 241, 1))), int64(0), code(impl.ErrNotFound))
	for _, b := range booksOutside() {
		wantResults(t, fmt.Sprint(b), all(impl.HeightFor(examplePegs, three, b)), int64(0), code(impl.ErrInvalid))
		wantResults(t, fmt.Sprint(b), all(impl.HeightFor(examplePegs, three[:1], b)), int64(0), code(impl.ErrInvalid))
	}
}

func TestGroupsAndWaste(t *testing.T) {
	type asked struct {
		name    string
		heights []int64
		list    []impl.Book
		groups  [][]int64
		waste   int64
	}
	for _, a := range []asked{
		{"no books", []int64{200}, nil, make([][]int64, 1), 0},
		{"no books, six heights", []int64{200, 220, 240, 260, 280, 300}, []impl.Book{}, make([][]int64, 6), 0},
		{"one book", []int64{200, 240}, sized([2]int16{3, 190}), [][]int64{{0}, nil}, 30},
		{"exactly as high", []int64{200, 240}, sized([2]int16{100, 240}), [][]int64{nil, {0}}, 0},
		{"equal ones", []int64{200, 240}, sized([2]int16{7, 230}, [2]int16{7, 230}, [2]int16{7, 230}), [][]int64{nil, {0, 1, 2}}, 210},
		{"both in turn", []int64{200, 240}, sized([2]int16{1, 240}, [2]int16{2, 199}, [2]int16{3, 201}, [2]int16{4, 200}, [2]int16{5, 50}), [][]int64{{1, 3, 4}, {0, 2}}, 2 + 3*39 + 5*150},
		{"the greatest waste", []int64{1000}, slices.Repeat(sized([2]int16{100, 50}), 60), nil, 60 * 100 * 950},
	} {
		wantResults(t, a.name, all(impl.WasteOf(examplePegs, a.heights, a.list)), a.waste, code(impl.OK))
		if a.groups != nil {
			wantGroups(t, a.name, examplePegs, a.heights, a.list)
			got, _ := impl.GroupBooks(examplePegs, a.heights, a.list)
			if fmt.Sprint(got) != fmt.Sprint(a.groups) {
				t.Errorf("%s: %v, want %v", a.name, got, a.groups)
			}
		}
	}
	for _, list := range [][]impl.Book{highs(241), highs(200, 241), highs(241, 200), highs(400, 50, 400)} {
		wantResults(t, fmt.Sprint(list), all(impl.WasteOf(examplePegs, []int64{200, 240}, list)), int64(0), code(impl.ErrNotFound))
		wantResults(t, fmt.Sprint(list), all(impl.GroupBooks(examplePegs, []int64{200, 240}, list)), [][]int64(nil), code(impl.ErrNotFound))
	}
}

func TestSplitBooks(t *testing.T) {
	list := sized([2]int16{1, 240}, [2]int16{2, 200}, [2]int16{3, 241}, [2]int16{4, 239}, [2]int16{5, 240})
	none := []impl.Book(nil)
	low := []impl.Book{list[0], list[1], list[3], list[4]}
	wantResults(t, "exactly as high", all(impl.SplitBooks(list, 240)), low, []impl.Book{list[2]}, code(impl.OK))
	wantResults(t, "higher by 1", all(impl.SplitBooks(list, 239)), []impl.Book{list[1], list[3]}, []impl.Book{list[0], list[2], list[4]}, code(impl.OK))
	for _, high := range []int64{0, 1, 199} {
		wantResults(t, "none low", all(impl.SplitBooks(list, high)), none, list, code(impl.OK))
	}
	for _, high := range []int64{241, 400, 1000} {
		wantResults(t, "none higher", all(impl.SplitBooks(list, high)), list, none, code(impl.OK))
		wantResults(t, "no books", all(impl.SplitBooks(nil, high)), none, none, code(impl.OK))
	}
	for _, high := range []int64{-1, 1001, 1 << 16, 1<<32 + 240, math.MinInt64, math.MaxInt64} {
		wantResults(t, fmt.Sprint(high), all(impl.SplitBooks(list, high)), none, none, code(impl.ErrRange))
		wantResults(t, fmt.Sprint(high, " for no books"), all(impl.SplitBooks(nil, high)), none, none, code(impl.ErrRange))
	}
	for _, bad := range listsOutside() {
		for _, high := range []int64{240, -1, 1001} {
			wantResults(t, fmt.Sprint(bad), all(impl.SplitBooks(bad, high)), none, none, code(impl.ErrInvalid))
		}
	}
}
