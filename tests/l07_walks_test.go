package tests

import (
	"fmt"
	"math"
	"math/rand/v2"
	"slices"
	"testing"

	"loop.example/g01326/impl"
)

func TestWalkTo(t *testing.T) {
	type asked struct {
		shelf, wanted string
		stops         []int64
	}
	for _, a := range []asked{
		{"", "", nil}, {"abc", "", nil}, {"abc", "a", []int64{0}}, {"abc", "cab", []int64{2, 0, 1}}, {"bca", "ca", []int64{1, 2}},
		// Twice, of which the shelf has several.
		{"aba", "aa", []int64{0, 2}}, {"aba", "aba", []int64{0, 1, 2}}, {"abab", "bbaa", []int64{1, 3, 0, 2}}, {"aaaa", "aaa", []int64{0, 1, 2}},
		// A book is the same one also if other fields differ.
		{"bAaB", "ab", []int64{1, 0}}, {"bAaB", "aa", []int64{1, 2}}, {"bAaB", "Aa", []int64{1, 2}}, {"A", "a", []int64{0}}, {"aAaA", "AAAA", []int64{0, 1, 2, 3}},
	} {
		wantResults(t, a.wanted+" of "+a.shelf, all(impl.WalkTo(books(a.shelf), books(a.wanted))), a.stops, code(impl.OK))
	}
	none := []int64(nil)
	for _, a := range []asked{{shelf: "", wanted: "a"}, {shelf: "abc", wanted: "d"}, {shelf: "abc", wanted: "aa"}, {shelf: "abc", wanted: "abca"}, {shelf: "aA", wanted: "aAa"}, {shelf: "abc", wanted: "abd"}, {shelf: "abc", wanted: "dab"}} {
		wantResults(t, a.wanted+" of "+a.shelf, all(impl.WalkTo(books(a.shelf), books(a.wanted))), none, code(impl.ErrNotFound))
	}
}

// TestWalkToFields: Class, Mark and Volume have to be the same, all others not.
func TestWalkToFields(t *testing.T) {
	shelf := []impl.Book{bookOf(5, "abd", 1, 1), bookOf(6, "abc", 1, 1), bookOf(5, "abc", 2, 1), bookOf(5, "bbc", 1, 1), bookOf(5, "aac", 1, 1), bookOf(5, "abc", 1, 9)}
	wantResults(t, "weight", all(impl.WalkTo(shelf, []impl.Book{bookOf(5, "abc", 1, 1)})), []int64{5}, code(impl.OK))
	wantResults(t, "none", all(impl.WalkTo(shelf[:5], []impl.Book{bookOf(5, "abc", 1, 1)})), []int64(nil), code(impl.ErrNotFound))
	alike := lookalikes(7)
	for _, b := range alike {
		wantResults(t, "one", all(impl.WalkTo(alike, []impl.Book{b})), []int64{0}, code(impl.OK))
		wantResults(t, "four", all(impl.WalkTo(alike, slices.Repeat([]impl.Book{b}, 4))), []int64{0, 1, 2, 3}, code(impl.OK))
		wantResults(t, "five", all(impl.WalkTo(alike, slices.Repeat([]impl.Book{b}, 5))), []int64(nil), code(impl.ErrNotFound))
	}
}

func TestWalkToMany(t *testing.T) {
	short := lists("aAb", 3)
	for _, shelf := range lists("aAb", 4) {
		for _, wanted := range short {
			wantWalkTo(t, shelf, wanted)
		}
	}
	r := newRandom()
	for range 1000 {
		shelf := anyBooks(r, r.IntN(impl.MaxBooks+1))
		wantWalkTo(t, shelf, mixed(r, shelf)[:r.IntN(len(shelf)+1)])
		wantWalkTo(t, shelf, anyBooks(r, r.IntN(10)))
	}
	full := weighed(slices.Repeat(classed(5), impl.MaxBooks))
	wantWalkTo(t, full, full)
	wantWalkTo(t, full[1:], full)
}

// wantWalkTo compares where wanted books stand with taking them one by one.
func wantWalkTo(t *testing.T, shelf, wanted []impl.Book) {
	t.Helper()
	stops, found := slowWalkTo(shelf, wanted)
	want := code(impl.OK)
	if !found {
		want = impl.ErrNotFound
	}
	wantResults(t, fmt.Sprint(wanted, " of ", shelf), all(impl.WalkTo(shelf, wanted)), stops, want)
}

func TestWalkToErrors(t *testing.T) {
	none := []int64(nil)
	for _, bad := range listsOutside() {
		for _, other := range [][]impl.Book{nil, classed(5), bad} {
			wantResults(t, "bad shelf", all(impl.WalkTo(bad, other)), none, code(impl.ErrInvalid))
			wantResults(t, "bad wanted", all(impl.WalkTo(other, bad)), none, code(impl.ErrInvalid))
		}
	}
	full := slices.Repeat(classed(5), impl.MaxBooks)
	wantResults(t, "61 wanted", all(impl.WalkTo(nil, append(full, full[0]))), none, code(impl.ErrInvalid))
	wantResults(t, "60 wanted", all(impl.WalkTo(nil, full)), none, code(impl.ErrNotFound))
}

func TestWalkLength(t *testing.T) {
	type asked struct {
		start  int64
		stops  []int64
		length int64
	}
	for _, a := range []asked{
		{5, nil, 0}, {0, nil, 0}, {999, []int64{}, 0}, {5, []int64{5}, 0}, {5, []int64{7}, 2}, {5, []int64{1}, 4}, {5, []int64{1, 9, 6}, 15}, {5, []int64{1, 6, 9}, 12}, {5, []int64{6, 9, 1}, 12},
		{5, []int64{7, 7, 7}, 2}, {5, []int64{5, 5, 6, 5}, 2}, {0, []int64{999}, 999}, {999, []int64{0}, 999}, {0, []int64{0}, 0}, {999, []int64{999, 0, 999}, 1998}, {0, []int64{999, 0}, 1998},
		{500, []int64{499, 501}, 3}, {0, slices.Repeat([]int64{999, 0}, 30), 60 * 999},
	} {
		wantResults(t, fmt.Sprint(a.start, a.stops), all(impl.WalkLength(a.stops, a.start)), a.length, code(impl.OK))
	}
	r := newRandom()
	for round := range 500 {
		stops := anyStops(r, round%(impl.MaxBooks+1), 1000)
		start := r.Int64N(1000)
		wantResults(t, fmt.Sprint(start, stops), all(impl.WalkLength(stops, start)), slowLength(stops, start), code(impl.OK))
	}
}

// anyStops returns stops less than behind.
func anyStops(r *rand.Rand, count int, behind int64) []int64 {
	var stops []int64
	for range count {
		stops = append(stops, r.Int64N(behind))
	}
	return stops
}

func TestWalkErrors(t *testing.T) {
	far := []int64{-1, 1000, -999, 1 << 32, 1<<32 + 5, 1<<16 + 5, 256 * 256, math.MinInt64, math.MaxInt64}
	most := slices.Repeat([]int64{7}, impl.MaxBooks)
	type asked struct {
		stops []int64
		start int64
		want  int64
	}
	list := []asked{
		{nil, 0, impl.OK}, {nil, 999, impl.OK}, {[]int64{0, 999}, 0, impl.OK}, {[]int64{999, 0}, 999, impl.OK}, {most, 7, impl.OK},
		{append(most, 7), 7, impl.ErrLimit}, {append(most, 0), 999, impl.ErrLimit}, {append(most, 999), 0, impl.ErrLimit}, {make([]int64, 1000), 0, impl.ErrLimit},
	}
	for _, n := range far {
		list = append(list, asked{nil, n, impl.ErrRange}, asked{[]int64{5}, n, impl.ErrRange}, asked{[]int64{n}, 5, impl.ErrRange}, asked{[]int64{5, n}, 5, impl.ErrRange}, asked{[]int64{n, 5}, 5, impl.ErrRange}, asked{[]int64{n}, n, impl.ErrRange})
		// A stop or a start that is too far is told ahead of too many stops, also if it stands behind these.
		list = append(list, asked{append(most, 7), n, impl.ErrRange}, asked{append(most, n), 7, impl.ErrRange}, asked{append(most, 7, n), 7, impl.ErrRange}, asked{append([]int64{n}, most...), 7, impl.ErrRange})
	}
	for _, a := range list {
		name := fmt.Sprint(a.start, a.stops)
		wantCode(t, "length of "+name, all(impl.WalkLength(a.stops, a.start)), a.want)
		wantCode(t, "shortest of "+name, all(impl.ShortestWalk(a.stops, a.start)), a.want)
	}
}

func TestShortestWalk(t *testing.T) {
	type asked struct {
		start  int64
		stops  []int64
		walk   []int64
		length int64
	}
	for _, a := range []asked{
		// No stops, one, equal ones.
		{5, nil, nil, 0}, {0, []int64{}, nil, 0}, {5, []int64{9}, []int64{9}, 4}, {5, []int64{1}, []int64{1}, 4}, {5, []int64{5}, []int64{5}, 0}, {5, []int64{7, 7}, []int64{7, 7}, 2}, {5, []int64{3, 3, 3}, []int64{3, 3, 3}, 2}, {5, []int64{5, 5}, []int64{5, 5}, 0},
		// The start is left of all stops, right of all, and on an end.
		{1, []int64{9, 4, 6}, []int64{4, 6, 9}, 8}, {20, []int64{4, 9, 6}, []int64{9, 6, 4}, 16}, {4, []int64{9, 4, 6}, []int64{4, 6, 9}, 5}, {9, []int64{4, 9, 6}, []int64{9, 6, 4}, 5}, {9, []int64{9, 4, 9}, []int64{9, 9, 4}, 5},
		// In the middle, nearer to the least stop: all in ascending order, though some could be met on the way there.
		{5, []int64{9, 3, 4}, []int64{3, 4, 9}, 8}, {3, []int64{1, 2, 9, 3}, []int64{1, 2, 3, 9}, 10},
		// Nearer to the greatest one: those on the way there first, and the others on the way back.
		{5, []int64{1, 2, 7, 6}, []int64{6, 7, 2, 1}, 8}, {5, []int64{5, 1, 7, 6, 5}, []int64{5, 5, 6, 7, 1}, 8}, {8, []int64{1, 7, 9, 9, 7}, []int64{9, 9, 7, 7, 1}, 9},
		// As far from one end as from the other: the list with the least stop first.
		{5, []int64{1, 9, 6}, []int64{1, 6, 9}, 12}, {5, []int64{4, 6}, []int64{4, 6}, 3}, {5, []int64{6, 4, 5}, []int64{4, 5, 6}, 3}, {5, []int64{7, 3, 4, 6, 5}, []int64{3, 4, 5, 6, 7}, 6},
		// One nearer to either end.
		{5, []int64{2, 9}, []int64{2, 9}, 10}, {5, []int64{1, 8}, []int64{8, 1}, 10},
		{0, []int64{999, 0}, []int64{0, 999}, 999}, {999, []int64{0, 999}, []int64{999, 0}, 999}, {0, []int64{999}, []int64{999}, 999}, {500, []int64{999, 0}, []int64{999, 0}, 1498}, {499, []int64{999, 0}, []int64{0, 999}, 1498},
	} {
		wantResults(t, fmt.Sprint(a.start, a.stops), all(impl.ShortestWalk(a.stops, a.start)), a.walk, a.length, code(impl.OK))
	}
}

// TestNoShorterWalk is of promise 16: no order of few stops is shorter than the shortest walk, and no other one that is as short comes first.
func TestNoShorterWalk(t *testing.T) {
	lists := [][]int64{nil}
	for from := 0; from < len(lists); from++ {
		for stop := int64(1); stop <= 6 && len(lists[from]) < 4; stop++ {
			lists = append(lists, append(slices.Clone(lists[from]), stop))
		}
	}
	for _, stops := range lists {
		for start := range int64(8) {
			walk, length := slowWalk(stops, start)
			wantResults(t, fmt.Sprint(start, stops), all(impl.ShortestWalk(stops, start)), walk, length, code(impl.OK))
		}
	}
	r := newRandom()
	for round := range 300 {
		behind := pickOf[int64](r, 5, 12, 20, 1000)
		stops, start := anyStops(r, 5+round%3, behind), r.Int64N(behind)
		walk, length := slowWalk(stops, start)
		wantResults(t, fmt.Sprint(start, stops), all(impl.ShortestWalk(stops, start)), walk, length, code(impl.OK))
	}
}

// TestShortestOfMany is of promise 16, with up to MaxBooks stops: it is as long as the document's words allow at the least, and no exchange makes it shorter or a list that comes first.
func TestShortestOfMany(t *testing.T) {
	r := newRandom()
	for round := range 100 {
		behind := pickOf[int64](r, 12, 100, 1000)
		stops, start := anyStops(r, 1+round%impl.MaxBooks, behind), r.Int64N(behind)
		walk, length, cd := impl.ShortestWalk(stops, start)
		wantResults(t, fmt.Sprint(start, stops), all(slices.Sorted(slices.Values(walk)), slowLength(walk, start), cd), slices.Sorted(slices.Values(stops)), length, code(impl.OK))
		// Each walk meets both ends, and one of them first.
		low, high := slices.Min(stops), slices.Max(stops)
		least := high - low + min(slowLength([]int64{low}, start), slowLength([]int64{high}, start))
		wantResults(t, fmt.Sprint(start, stops), all(length), least)
		for i := range walk {
			for j := range i {
				other := slices.Clone(walk)
				other[i], other[j] = walk[j], walk[i]
				far, _ := impl.WalkLength(other, start)
				if far < length || far == length && slices.Compare(other, walk) < 0 {
					t.Errorf("from %d %v is %d, and %v %d", start, walk, length, other, far)
				}
			}
		}
		for range 20 {
			other := slices.Clone(stops)
			r.Shuffle(len(other), func(i, j int) { other[i], other[j] = other[j], other[i] })
			if far, _ := impl.WalkLength(other, start); far < length {
				t.Errorf("from %d %v is %d, and %v %d", start, walk, length, other, far)
			}
		}
	}
	most := slices.Repeat([]int64{7}, impl.MaxBooks)
	wantResults(t, "60 equal stops", all(impl.ShortestWalk(most, 9)), most, int64(2), code(impl.OK))
}

// rows returns books of some widths and weights.
func rows(pairs ...[2]int16) []impl.Book {
	var list []impl.Book
	for _, pair := range pairs {
		list = append(list, size(pair[0], 100, pair[1]))
	}
	return list
}

func TestHeaviestShelf(t *testing.T) {
	type asked struct {
		list                 []impl.Book
		wide                 int64
		first, count, weight int64
	}
	three := rows([2]int16{10, 5}, [2]int16{20, 7}, [2]int16{30, 9})
	ties := rows([2]int16{10, 5}, [2]int16{10, 5}, [2]int16{10, 5}, [2]int16{10, 5})
	sums := rows([2]int16{20, 9}, [2]int16{10, 4}, [2]int16{10, 5}, [2]int16{20, 9}, [2]int16{5, 3}, [2]int16{5, 3}, [2]int16{10, 3})
	for _, a := range []asked{
		// All fit, one less, one, and the narrowest one alone.
		{three, 60, 0, 3, 21}, {three, 6000, 0, 3, 21}, {three, 59, 1, 2, 16}, {three, 50, 1, 2, 16}, {three, 49, 0, 2, 12}, {three, 30, 0, 2, 12}, {three, 29, 1, 1, 7}, {three, 20, 1, 1, 7}, {three, 19, 0, 1, 5}, {three, 10, 0, 1, 5},
		{three[:1], 10, 0, 1, 5}, {three[:1], 6000, 0, 1, 5}, {rows([2]int16{1, 1}), 1, 0, 1, 1}, {rows([2]int16{2, 9}, [2]int16{1, 3}, [2]int16{2, 9}), 1, 1, 1, 3},
		// Several rows with the same weight: the one with the least first index.
		{ties, 10, 0, 1, 5}, {ties, 19, 0, 1, 5}, {ties, 20, 0, 2, 10}, {ties, 39, 0, 3, 15}, {ties, 40, 0, 4, 20}, {sums, 20, 0, 1, 9}, {sums[1:], 20, 0, 2, 9}, {sums[2:], 20, 1, 1, 9}, {sums[4:], 20, 0, 3, 9}, {sums[4:], 19, 0, 2, 6},
		{rows([2]int16{10, 3}, [2]int16{10, 9}, [2]int16{50, 9}, [2]int16{10, 9}), 10, 1, 1, 9},
		// A book that is too wide parts what is next to each other.
		{rows([2]int16{10, 5}, [2]int16{90, 99}, [2]int16{10, 5}, [2]int16{10, 1}), 30, 2, 2, 6}, {rows([2]int16{90, 9}, [2]int16{10, 5}, [2]int16{90, 9}), 50, 1, 1, 5},
		// A light row of many, and a heavy one of few.
		{rows([2]int16{10, 1}, [2]int16{10, 1}, [2]int16{10, 1}, [2]int16{30, 4}), 30, 3, 1, 4}, {rows([2]int16{30, 4}, [2]int16{10, 2}, [2]int16{10, 2}, [2]int16{10, 1}), 30, 1, 3, 5},
	} {
		name := fmt.Sprint(a.wide, a.list)
		wantResults(t, name, all(impl.HeaviestShelf(a.list, a.wide)), a.first, a.count, a.weight, code(impl.OK))
	}
	r := newRandom()
	for round := range 400 {
		many := round % 14
		if round%50 == 49 {
			many = impl.MaxBooks
		}
		var list []impl.Book
		for range many {
			list = append(list, size(int16(1+r.IntN(100)), 100, int16(1+r.IntN(pickOf(r, 3, 9999)))))
		}
		wide := 1 + r.Int64N(pickOf[int64](r, 100, 400, 6000))
		first, count, weight := slowHeaviest(list, wide)
		want := code(impl.OK)
		if count == 0 {
			want = impl.ErrNotFound
		}
		wantResults(t, fmt.Sprint(wide, list), all(impl.HeaviestShelf(list, wide)), first, count, weight, want)
	}
}

func TestHeaviestShelfErrors(t *testing.T) {
	full := slices.Repeat([]impl.Book{booksInside()[2]}, impl.MaxBooks)
	wantResults(t, "6000", all(impl.HeaviestShelf(full, 6000)), int64(0), int64(60), int64(60*9999), code(impl.OK))
	wantResults(t, "5999", all(impl.HeaviestShelf(full, 5999)), int64(0), int64(59), int64(59*9999), code(impl.OK))
	wantResults(t, "100", all(impl.HeaviestShelf(full, 100)), int64(0), int64(1), int64(9999), code(impl.OK))
	wantCode(t, "99", all(impl.HeaviestShelf(full, 99)), impl.ErrNotFound)
	wantCode(t, "1", all(impl.HeaviestShelf(full, 1)), impl.ErrNotFound)
	wantCode(t, "1 of no books", all(impl.HeaviestShelf(nil, 1)), impl.ErrNotFound)
	wantCode(t, "6000 of no books", all(impl.HeaviestShelf([]impl.Book{}, 6000)), impl.ErrNotFound)
	for _, wide := range []int64{0, -1, 6001, -6000, 1 << 16, 1<<16 + 50, 1<<32 + 50, math.MinInt64, math.MaxInt64} {
		wantCode(t, "outside", all(impl.HeaviestShelf(full, wide)), impl.ErrRange)
		wantCode(t, "outside, no books", all(impl.HeaviestShelf(nil, wide)), impl.ErrRange)
		for _, bad := range listsOutside() {
			wantCode(t, "not valid", all(impl.HeaviestShelf(bad, wide)), impl.ErrInvalid)
		}
	}
	for _, bad := range listsOutside() {
		wantCode(t, "not valid", all(impl.HeaviestShelf(bad, 50)), impl.ErrInvalid)
	}
}
