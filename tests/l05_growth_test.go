package tests

import (
	"fmt"
	"math"
	"slices"
	"strings"
	"testing"

	"loop.example/g01326/impl"
)

// TestSpread fills and spreads all numbers of books over all numbers of places.
func TestSpread(t *testing.T) {
	r := newRandom()
	for places := 1; places <= impl.MaxPlaces; places++ {
		for count := range places + 1 {
			list := slowSort(usual, anyBooks(r, count))
			packed := impl.Rack{Places: int16(places)}
			for at, b := range list {
				packed.Books = append(packed.Books, impl.Placed{At: int16(at), Book: b})
			}
			want, moved := slowSpread(packed)
			name := fmt.Sprint(count, " books in ", places, " places")
			filled, cd := impl.FillRack(int64(places), list)
			wantResults(t, name, all(impl.SameRack(filled, want), cd), true, code(impl.OK))
			spread, got, cd := impl.SpreadRack(packed)
			wantResults(t, name, all(impl.SameRack(spread, want), got, cd), true, moved, code(impl.OK))
			again, got, cd := impl.SpreadRack(spread)
			wantResults(t, name+", again", all(impl.SameRack(again, want), got, cd), true, int64(0), code(impl.OK))
			if !slowValidRack(spread) || !slices.Equal(booksOf(spread), list) {
				t.Errorf("%s: %v is not valid, or has other books", name, spread)
			}
		}
	}
	for range 2000 {
		rack := anyRack(r, 1+r.IntN(12))
		want, moved := slowSpread(rack)
		spread, got, cd := impl.SpreadRack(rack)
		wantResults(t, fmt.Sprint(rack), all(impl.SameRack(spread, want), got, cd), true, moved, code(impl.OK))
	}
}

func TestSpreadRack(t *testing.T) {
	type asked struct {
		rack, want string
		moved      int64
	}
	for _, a := range []asked{
		{".", ".", 0}, {"a", "a", 0}, {"....", "....", 0},
		{"a.", ".a", 1}, {".a", ".a", 0}, {"a..", ".a.", 1}, {"..a", ".a.", 1}, {".a.", ".a.", 0}, {"a...", "..a.", 1},
		{".a.b.", ".a.b.", 0}, {"ab...", ".a.b.", 2}, {"a..b.", ".a.b.", 1}, {".a..b..", ".a...b.", 1},
		{"abc.......", ".a...b..c.", 3}, {".ab.....c.", ".a...b..c.", 1}, {"abcde", "abcde", 0}, {"abcd.", "ab.cd", 2},
		{"aA...", ".a.A.", 2}, {"Aa...", ".A.a.", 2},
	} {
		wantRack(t, a.rack, all(impl.SpreadRack(rackOf(a.rack))), a.want, a.moved, code(impl.OK))
	}
}

func TestFillRack(t *testing.T) {
	type asked struct {
		places int64
		list   string
		want   string
		code   int64
	}
	sixty := strings.Repeat("m", 60)
	for _, a := range []asked{
		{1, "", ".", impl.OK}, {60, "", strings.Repeat(".", 60), impl.OK}, {1, "a", "a", impl.OK}, {2, "a", ".a", impl.OK}, {3, "a", ".a.", impl.OK}, {60, "a", strings.Repeat(".", 30) + "a" + strings.Repeat(".", 29), impl.OK},
		{5, "ab", ".a.b.", impl.OK}, {7, "ab", ".a...b.", impl.OK}, {2, "ab", "ab", impl.OK}, {3, "aA", "a.A", impl.OK}, {3, "Aa", "A.a", impl.OK}, {10, "abc", ".a...b..c.", impl.OK}, {4, "abc", "a.bc", impl.OK},
		{60, sixty, sixty, impl.OK}, {60, sixty[:59], sixty[:29] + "." + sixty[:30], impl.OK},
		{1, "ab", "", impl.ErrLimit}, {4, "abcde", "", impl.ErrLimit}, {59, sixty, "", impl.ErrLimit},
		{5, "ba", "", impl.ErrState}, {2, "aba", "", impl.ErrState}, {1, "ba", "", impl.ErrState},
		{0, "", "", impl.ErrRange}, {0, "ba", "", impl.ErrRange}, {61, "ba", "", impl.ErrRange}, {-1, sixty, "", impl.ErrRange}, {61, sixty, "", impl.ErrRange},
		{1 << 16, "", "", impl.ErrRange}, {1<<16 + 5, "ab", "", impl.ErrRange}, {1<<32 + 5, "ab", "", impl.ErrRange}, {math.MinInt64, "", "", impl.ErrRange}, {math.MaxInt64, "ab", "", impl.ErrRange},
	} {
		wantRack(t, fmt.Sprint(a.places, " ", a.list), all(impl.FillRack(a.places, books(a.list))), a.want, a.code)
	}
	for _, list := range listsOutside() {
		for _, places := range []int64{5, 60, 61, 0, -1, 1} {
			wantRack(t, fmt.Sprint(places, list), all(impl.FillRack(places, list)), "", code(impl.ErrInvalid))
		}
	}
}

// slowRow returns the first one of the longest rows of a mark in a mask.
func slowRow(mask, mark string) (int64, int64, int64) {
	for count := len(mask); count > 0; count-- {
		if first := strings.Index(mask, strings.Repeat(mark, count)); first >= 0 {
			return int64(first), int64(count), impl.OK
		}
	}
	return 0, 0, impl.ErrNotFound
}

func TestRows(t *testing.T) {
	for _, mask := range masks(10) {
		r := rackOf(strings.ReplaceAll(mask, "#", "m"))
		wantResults(t, "crowd of "+mask, all(impl.CrowdOf(r)), all(slowRow(mask, "#"))...)
		wantResults(t, "gap of "+mask, all(impl.WidestGap(r)), all(slowRow(mask, "."))...)
	}
}

func TestRowsByHand(t *testing.T) {
	type asked struct {
		rack                     string
		crowd, many, crowdCode   int64
		gap, places, widestsCode int64
	}
	sixty := strings.Repeat("m", 60)
	for _, a := range []asked{
		{".", 0, 0, impl.ErrNotFound, 0, 1, impl.OK},
		{"a", 0, 1, impl.OK, 0, 0, impl.ErrNotFound},
		{strings.Repeat(".", 60), 0, 0, impl.ErrNotFound, 0, 60, impl.OK},
		{sixty, 0, 60, impl.OK, 0, 0, impl.ErrNotFound},
		{"..b.", 2, 1, impl.OK, 0, 2, impl.OK},
		{".b..", 1, 1, impl.OK, 2, 2, impl.OK},
		// The first one of several that are equally long.
		{"ab.cd.ef", 0, 2, impl.OK, 2, 1, impl.OK},
		{"a.bc..de..f", 2, 2, impl.OK, 4, 2, impl.OK},
		{"a.b.c", 0, 1, impl.OK, 1, 1, impl.OK},
		// The last one.
		{"ab.cde", 3, 3, impl.OK, 2, 1, impl.OK},
		{".a..b...", 1, 1, impl.OK, 5, 3, impl.OK},
		{sixty[:29] + "." + sixty[:30], 30, 30, impl.OK, 29, 1, impl.OK},
	} {
		wantResults(t, "crowd of "+a.rack, all(impl.CrowdOf(rackOf(a.rack))), a.crowd, a.many, a.crowdCode)
		wantResults(t, "gap of "+a.rack, all(impl.WidestGap(rackOf(a.rack))), a.gap, a.places, a.widestsCode)
	}
}

func TestMoveApart(t *testing.T) {
	type asked struct {
		a, b string
		want int64
		code int64
	}
	for _, a := range []asked{
		{".", ".", 0, impl.OK}, {".", "...", 0, impl.OK}, {"a", "a", 0, impl.OK}, {"a..", "..a", 2, impl.OK}, {"..a", "a..", 2, impl.OK}, {"a", "....a", 4, impl.OK},
		{".a.b.", ".a.b.", 0, impl.OK}, {".a.b.", "a...b", 1 + 1, impl.OK}, {"ab...", "...ab", 3 + 3, impl.OK}, {".ab.", "a..b", 2, impl.OK}, {"aA..", ".a.A", 1 + 2, impl.OK},
		{"a" + strings.Repeat(".", 59), strings.Repeat(".", 59) + "a", 59, impl.OK},
		{"a", ".", 0, impl.ErrState}, {".", "a", 0, impl.ErrState}, {"a.", "ab", 0, impl.ErrState}, {"a.", "b.", 0, impl.ErrState}, {"a.", "A.", 0, impl.ErrState}, {"aA", "Aa", 0, impl.ErrState}, {"ab.", "ac.", 0, impl.ErrState},
	} {
		wantResults(t, a.a+" and "+a.b, all(impl.MoveApart(rackOf(a.a), rackOf(a.b))), a.want, a.code)
	}
	r := newRandom()
	for range 2000 {
		a := anyRack(r, 1+r.IntN(impl.MaxPlaces))
		b := impl.Rack{Places: int16(len(a.Books)) + int16(r.IntN(impl.MaxPlaces-len(a.Books)+1))}
		if b.Places == 0 {
			continue
		}
		ats := r.Perm(int(b.Places))[:len(a.Books)]
		slices.Sort(ats)
		sum := int64(0)
		for i, placed := range a.Books {
			b.Books = append(b.Books, impl.Placed{At: int16(ats[i]), Book: placed.Book})
			sum += int64(math.Abs(float64(ats[i]) - float64(placed.At)))
		}
		wantResults(t, fmt.Sprint(a, b), all(impl.MoveApart(a, b)), sum, code(impl.OK))
		wantResults(t, fmt.Sprint(b, a), all(impl.MoveApart(b, a)), sum, code(impl.OK))
	}
}

// TestSplitAndJoined has the guarantee that the parts of a rack that is split are joined again.
func TestSplitAndJoined(t *testing.T) {
	var racks []impl.Rack
	for _, mask := range masks(7) {
		racks = append(racks, everyOther(mask), rackOf(strings.ReplaceAll(mask, "#", "m")))
	}
	r := newRandom()
	for places := range impl.MaxPlaces {
		racks = append(racks, anyRack(r, places+1))
	}
	for _, rack := range racks {
		name := fmt.Sprint(rack)
		places := int64(rack.Places)
		for at := int64(1); at < places; at++ {
			low, high, cd := impl.SplitRack(rack, at)
			wantResults(t, name, all(low.Places, high.Places, cd), int16(at), int16(places-at), code(impl.OK))
			wantResults(t, name, all(slowValidRack(low), slowValidRack(high)), true, true)
			if !slices.Equal(slices.Concat(booksOf(low), booksOf(high)), booksOf(rack)) {
				t.Errorf("%s is split into %v and %v", name, low, high)
			}
			joined, cd := impl.JoinRacks(low, high)
			wantResults(t, name, all(impl.SameRack(joined, rack), cd), true, code(impl.OK))
		}
		for _, at := range []int64{0, places, -1, places + 1, 1<<16 + 1, 1<<32 + 1, math.MinInt64, math.MaxInt64} {
			wantResults(t, name, all(impl.SplitRack(rack, at)), impl.Rack{}, impl.Rack{}, code(impl.ErrRange))
		}
	}
}

func TestSplitRack(t *testing.T) {
	type asked struct {
		rack      string
		at        int64
		low, high string
		code      int64
	}
	for _, a := range []asked{
		{"ab.cd", 0, "", "", impl.ErrRange}, {"ab.cd", 1, "a", "b.cd", impl.OK}, {"ab.cd", 2, "ab", ".cd", impl.OK}, {"ab.cd", 3, "ab.", "cd", impl.OK}, {"ab.cd", 4, "ab.c", "d", impl.OK}, {"ab.cd", 5, "", "", impl.ErrRange},
		{".", 0, "", "", impl.ErrRange}, {".", 1, "", "", impl.ErrRange}, {"a", 0, "", "", impl.ErrRange}, {"a", 1, "", "", impl.ErrRange},
		{"..", 1, ".", ".", impl.OK}, {"a.", 1, "a", ".", impl.OK}, {".a", 1, ".", "a", impl.OK}, {"aA", 1, "a", "A", impl.OK},
	} {
		low, high, cd := impl.SplitRack(rackOf(a.rack), a.at)
		wantResults(t, fmt.Sprint(a.rack, a.at), all(shown(low), shown(high), cd), a.low, a.high, a.code)
	}
}

func TestJoinRacks(t *testing.T) {
	type asked struct {
		a, b, want string
		code       int64
	}
	free, full := strings.Repeat(".", 60), strings.Repeat("m", 60)
	for _, a := range []asked{
		{".", ".", "..", impl.OK}, {"a", ".", "a.", impl.OK}, {".", "a", ".a", impl.OK}, {"a.b", ".c", "a.b.c", impl.OK}, {"ab", "bc", "abbc", impl.OK}, {"aA", "aA", "aAaA", impl.OK},
		{"b", "a", "", impl.ErrState}, {"a.c", "b.d", "", impl.ErrState}, {"ab", "A.c", "", impl.ErrState}, {".b", "..a", "", impl.ErrState}, {"ac", "cd", "accd", impl.OK},
		{free[:59], "a", free[:59] + "a", impl.OK}, {"a", free[:59], "a" + free[:59], impl.OK}, {full[:30], full[:30], full, impl.OK},
		{free, ".", "", impl.ErrLimit}, {".", free, "", impl.ErrLimit}, {full[:30], full[:31], "", impl.ErrLimit}, {full, full, "", impl.ErrLimit}, {free, free, "", impl.ErrLimit},
		// Books that are not in order are told first, also of too many places, and of too many books.
		{full, free[:59] + "a", "", impl.ErrState}, {full, strings.Repeat("a", 60), "", impl.ErrState}, {full, strings.Repeat("z", 60), "", impl.ErrLimit}, {free[:59] + "b", "a", "", impl.ErrState},
	} {
		wantRack(t, a.a+" and "+a.b, all(impl.JoinRacks(rackOf(a.a), rackOf(a.b))), a.want, a.code)
	}
}

func TestGrowYears(t *testing.T) {
	type asked struct {
		rack  string
		years []string
		most  int64
		want  string
		moved []int64
		code  int64
	}
	twenty := make([]string, impl.MaxYears)
	for _, a := range []asked{
		// No years, and years without books.
		{".", nil, 0, ".", nil, impl.OK}, {"ab.", nil, 60, "ab.", nil, impl.OK}, {"ab.", []string{""}, 0, "ab.", []int64{0}, impl.OK}, {"ab", []string{"", ""}, 0, "ab", []int64{0, 0}, impl.OK},
		{".....", []string{"", "b", ""}, 0, "..b..", []int64{0, 0, 0}, impl.OK},
		// As many years as are allowed, and one more.
		{"a.", twenty, 0, "a.", make([]int64, 20), impl.OK}, {"a.", append(twenty[:19:19], "a"), 0, "aa", append(make([]int64, 19), 0), impl.OK}, {"a.", append(twenty, ""), 0, "", nil, impl.ErrRange},
		// What is needed is as much as most, or more by 1.
		{"ac...", []string{"b"}, 1, "abc..", []int64{1}, impl.OK}, {"ac...", []string{"b"}, 0, ".abc.", []int64{2}, impl.OK},
		{"acd...", []string{"b"}, 2, "abcd..", []int64{2}, impl.OK}, {"acd...", []string{"b"}, 1, ".abc.d", []int64{3}, impl.OK},
		// A place is free: it is not spread.
		{"a.b...", []string{"a"}, 0, "aab...", []int64{0}, impl.OK}, {"ab....", []string{"b"}, 0, "ab.b..", []int64{0}, impl.OK},
		// Also behind spreading books have to be moved, more than most; or spreading moves nothing.
		{"abd.", []string{"c"}, 0, "abcd", []int64{2 + 1}, impl.OK}, {"abd.", []string{"c"}, 1, "abcd", []int64{1}, impl.OK}, {"a.bd", []string{"c"}, 0, "abcd", []int64{1}, impl.OK},
		// It is spread more than once, in a year and in several ones.
		{"ad...", []string{"bc"}, 0, "a.bcd", []int64{2 + 2}, impl.OK}, {"ad...", []string{"b", "c"}, 0, "a.bcd", []int64{2, 2}, impl.OK}, {"ae......", []string{"b", "", "cd"}, 0, ".a.b.cde", []int64{2, 0, 3}, impl.OK},
		{"ac.", []string{"b"}, 0, "abc", []int64{1}, impl.OK}, {"ac.", []string{"b"}, 60, "abc", []int64{1}, impl.OK},
		// No place.
		{"ab", []string{"c"}, 0, "", nil, impl.ErrLimit}, {"ab", []string{"c"}, 60, "", nil, impl.ErrLimit}, {"a.", []string{"b", "", "c"}, 60, "", nil, impl.ErrLimit}, {"a.", []string{"bc"}, 1, "", nil, impl.ErrLimit},
		{"ab", []string{"c"}, 61, "", nil, impl.ErrRange}, {"ab", []string{"c"}, -1, "", nil, impl.ErrRange}, {"ab", append(twenty, "c"), 0, "", nil, impl.ErrRange},
		{".", nil, 61, "", nil, impl.ErrRange}, {".", nil, -1, "", nil, impl.ErrRange}, {".", nil, math.MinInt64, "", nil, impl.ErrRange}, {".", nil, math.MaxInt64, "", nil, impl.ErrRange}, {".", nil, 1 << 32, "", nil, impl.ErrRange},
		// A rack that is not valid.
		{"ba", nil, 0, "", nil, impl.ErrInvalid}, {"ba", append(twenty, ""), 61, "", nil, impl.ErrInvalid},
	} {
		wantRack(t, fmt.Sprint(a), all(impl.GrowYears(rackOf(a.rack), yearsOf(a.years...), a.most)), a.want, a.moved, a.code)
	}
}

// yearsOf returns the lists of books of some letters.
func yearsOf(letters ...string) [][]impl.Book {
	var years [][]impl.Book
	for _, list := range letters {
		years = append(years, books(list))
	}
	return years
}

// TestGrown compares with the document's words, and is of promise 11: a rack that has grown is sorted, and has all books.
func TestGrown(t *testing.T) {
	r := newRandom()
	grown, refused, spread := 0, 0, 0
	for round := range 3000 {
		rack := anyRack(r, 1+round%impl.MaxPlaces)
		var years [][]impl.Book
		added := booksOf(rack)
		for range r.IntN(5) {
			list := anyBooks(r, r.IntN(2+(int(rack.Places)-len(rack.Books))/3))
			years, added = append(years, list), append(added, list...)
		}
		most := int64(pickOf(r, 0, 0, 1, 2, 5, 59, 60))
		want, moved, can := slowGrown(rack, years, most)
		name := fmt.Sprint(rack, years, most)
		if !can {
			refused++
			wantResults(t, name, all(impl.GrowYears(rack, years, most)), impl.Rack{}, []int64(nil), code(impl.ErrLimit))
			continue
		}
		grown++
		got, counts, cd := impl.GrowYears(rack, years, most)
		wantResults(t, name, all(counts, cd, impl.SameRack(got, want)), moved, code(impl.OK), true)
		if !slowValidRack(got) || got.Places != rack.Places || !sameCounts(booksOf(got), added) {
			t.Errorf("%s: %v is not valid, or has other books", name, got)
		}
		if unspread, _, _ := impl.AddAll(rack, added[len(rack.Books):]); !impl.SameRack(got, unspread) {
			spread++
			if most >= 59 {
				t.Errorf("%s: %v has been spread", name, got)
			}
		}
	}
	if grown < 1000 || refused < 200 || spread < 300 {
		t.Errorf("%d racks have grown, %d not, %d have been spread", grown, refused, spread)
	}
}

func TestGrowYearsErrors(t *testing.T) {
	twenty := make([][]impl.Book, impl.MaxYears)
	for _, list := range listsOutside() {
		// The list is in the first year or in the last one, of too many ones too, and all else is wrong as well.
		for _, years := range [][][]impl.Book{{list}, {list, nil}, {nil, books("ab"), list}, append([][]impl.Book{list}, twenty...), append(twenty[:20:20], list)} {
			for _, most := range []int64{0, 60, -1, 61} {
				for _, rack := range []string{"...", "ab", "ba"} {
					wantRack(t, fmt.Sprint(rack, years, most), all(impl.GrowYears(rackOf(rack), years, most)), "", []int64(nil), code(impl.ErrInvalid))
				}
			}
		}
	}
	for _, r := range racksOutside() {
		for _, most := range []int64{0, 60, -1, 61} {
			wantRack(t, fmt.Sprint(r), all(impl.GrowYears(r, yearsOf("a"), most)), "", []int64(nil), code(impl.ErrInvalid))
		}
	}
	// There are more books in all than a list may have; each year is a list of its own.
	sixty := books(strings.Repeat("m", impl.MaxBooks))
	wantRack(t, "120 books", all(impl.GrowYears(rackOf("."), [][]impl.Book{sixty, sixty}, 0)), "", []int64(nil), code(impl.ErrLimit))
}
