package tests

import (
	"cmp"
	"fmt"
	"math"
	"slices"
	"testing"

	"loop.example/g01326/impl"
)

func TestBooksExample(t *testing.T) {
	list := readList(t, exampleText)
	wantResults(t, "pairs", all(impl.PairsOut(list)), int64(2), code(impl.OK))
	wantResults(t, "runs", all(impl.RunsOf(list)), []int64{0, 1}, code(impl.OK))
	sorted, c := impl.SortBooks(usual, list)
	wantResults(t, "sorted", all(impl.BooksText(sorted), c), "100 ari 2 30x200 500\n513 ari 1 20x210 300\n513 euc 1 25x240 800\n", code(impl.OK))
	high, c := impl.SortBooks([]int8{-impl.OrHigh}, list)
	wantResults(t, "high", all(impl.BooksText(high), c), "513 euc 1 25x240 800\n513 ari 1 20x210 300\n100 ari 2 30x200 500\n", code(impl.OK))
	wantResults(t, "totals", all(impl.TotalsOf(list)), [3]int64{75, 240, 1600}, code(impl.OK))
	wantResults(t, "range", all(impl.ClassRange(sorted, 200, 600)), int64(1), int64(3), code(impl.OK))
	wantResults(t, "range of all", all(impl.ClassRange(list, 200, 600)), int64(0), int64(0), code(impl.ErrState))
}

func TestConstants(t *testing.T) {
	codes := []int64{impl.OK, impl.ErrInvalid, impl.ErrRange, impl.ErrLimit, impl.ErrState, impl.ErrSyntax, impl.ErrNotFound, impl.ErrBudget, impl.ErrProof}
	names := []string{"ok", "invalid", "range", "limit", "state", "syntax", "notfound", "budget", "proof"}
	for i, c := range codes {
		if c != int64(i) || impl.CodeName(c) != names[i] {
			t.Errorf("code %d: value %d, name %q", i, c, impl.CodeName(c))
		}
	}
	for _, c := range []int64{-1, 9, 10, 256, 1 << 32, math.MinInt64, math.MaxInt64} {
		if name := impl.CodeName(c); name != "" {
			t.Errorf("CodeName(%d) is %q", c, name)
		}
	}
	fields := []int{impl.OrClass, impl.OrMark, impl.OrVolume, impl.OrWide, impl.OrHigh, impl.OrWeight}
	if !slices.Equal(fields, []int{1, 2, 3, 4, 5, 6}) || impl.MaxBooks != 60 {
		t.Errorf("fields %v, MaxBooks %d", fields, impl.MaxBooks)
	}
}

// changed returns the plain book with one field changed.
func changed(change func(b *impl.Book)) impl.Book {
	b := plain
	change(&b)
	return b
}

// booksInside are on the bounds, booksOutside one step behind them or far out.
func booksInside() []impl.Book {
	return []impl.Book{
		plain,
		{Class: 0, Mark: [3]byte{'a', 'a', 'a'}, Volume: 1, Wide: 1, High: 50, Weight: 1},
		{Class: 999, Mark: [3]byte{'z', 'z', 'z'}, Volume: 99, Wide: 100, High: 400, Weight: 9999},
	}
}

func booksOutside() []impl.Book {
	list := []impl.Book{{}}
	for _, n := range []int16{-1, 1000, math.MinInt16, math.MaxInt16} {
		list = append(list, changed(func(b *impl.Book) { b.Class = n }))
	}
	for _, n := range []int16{0, -1, 100, math.MinInt16, math.MaxInt16} {
		list = append(list, changed(func(b *impl.Book) { b.Volume = n }))
	}
	for _, n := range []int16{0, -1, 101, math.MinInt16, math.MaxInt16} {
		list = append(list, changed(func(b *impl.Book) { b.Wide = n }))
	}
	for _, n := range []int16{49, 401, 0, -50, math.MinInt16, math.MaxInt16} {
		list = append(list, changed(func(b *impl.Book) { b.High = n }))
	}
	for _, n := range []int16{0, -1, 10000, math.MinInt16, math.MaxInt16} {
		list = append(list, changed(func(b *impl.Book) { b.Weight = n }))
	}
	for i := range 3 {
		for _, letter := range []byte{0, ' ', 'A', 'Z', '`', '{', 0x80, 0xff} {
			list = append(list, changed(func(b *impl.Book) { b.Mark[i] = letter }))
		}
	}
	return list
}

func TestValidBook(t *testing.T) {
	for _, b := range booksInside() {
		if !impl.ValidBook(b) || !impl.ValidBooks([]impl.Book{plain, b}) {
			t.Errorf("%v is not valid", b)
		}
	}
	for _, b := range booksOutside() {
		if impl.ValidBook(b) || impl.ValidBooks([]impl.Book{b}) || impl.ValidBooks([]impl.Book{plain, b}) || impl.ValidBooks([]impl.Book{b, plain}) {
			t.Errorf("%v is valid", b)
		}
	}
	full := slices.Repeat([]impl.Book{plain}, impl.MaxBooks)
	if !impl.ValidBooks(nil) || !impl.ValidBooks([]impl.Book{}) || !impl.ValidBooks(full) || impl.ValidBooks(append(full, plain)) {
		t.Error("ValidBooks of none, of MaxBooks, or of one more")
	}
}

func TestSameBooks(t *testing.T) {
	list := anyBooks(newRandom(), 20)
	if !impl.SameBooks(nil, []impl.Book{}) || !impl.SameBooks([]impl.Book{}, nil) || !impl.SameBooks(list, slices.Clone(list)) {
		t.Error("the same lists are not the same")
	}
	if impl.SameBooks(list, list[:19]) || impl.SameBooks(list[:19], list) || impl.SameBooks(list, nil) {
		t.Error("lists of different lengths are the same")
	}
	changes := []func(b *impl.Book){
		func(b *impl.Book) { b.Class++ }, func(b *impl.Book) { b.Mark[0]++ }, func(b *impl.Book) { b.Mark[1]++ },
		func(b *impl.Book) { b.Mark[2]++ }, func(b *impl.Book) { b.Volume++ }, func(b *impl.Book) { b.Wide++ },
		func(b *impl.Book) { b.High++ }, func(b *impl.Book) { b.Weight++ },
	}
	for i, change := range changes {
		other := slices.Clone(list)
		change(&other[i])
		if impl.SameBooks(list, other) {
			t.Errorf("change %d is not seen", i)
		}
	}
	// They need not be valid.
	long := make([]impl.Book, impl.MaxBooks+1)
	if !impl.SameBooks(long, slices.Clone(long)) || impl.SameBooks(long, slices.Repeat([]impl.Book{{Class: -1}}, len(long))) {
		t.Error("lists that are not valid")
	}
}

func TestValidOrder(t *testing.T) {
	for _, order := range [][]int8{{1}, {-1}, {6}, {-6}, {1, 2, 3, 4, 5, 6}, {-6, 5, -4, 3, -2, 1}, {2, -3}} {
		if !impl.ValidOrder(order) {
			t.Errorf("%v is not valid", order)
		}
	}
	bad := [][]int8{nil, {}, {0}, {7}, {-7}, {127}, {-127}, {-128}, {1, 1}, {1, -1}, {-1, 1}, {-2, -2}, {3, 1, 3}, {1, 0},
		{1, 2, 3, 4, 5, 6, 0}, {1, 2, 3, 4, 5, 6, 1}, {1, 2, 3, 4, 5, 6, 7}, {1, -128}}
	for _, order := range bad {
		if impl.ValidOrder(order) {
			t.Errorf("%v is valid", order)
		}
		wantResults(t, fmt.Sprint("CompareBy ", order), all(impl.CompareBy(order, plain, bookOf(1, "aaa", 1, 1))), int64(0), code(impl.ErrInvalid))
		wantResults(t, fmt.Sprint("SortBooks ", order), all(impl.SortBooks(order, []impl.Book{plain})), []impl.Book(nil), code(impl.ErrInvalid))
	}
	for first := -8; first <= 8; first++ {
		for second := -8; second <= 8; second++ {
			fits := func(n int) bool { return n != 0 && n >= -6 && n <= 6 }
			want := fits(first) && fits(second) && first != second && first != -second
			if impl.ValidOrder([]int8{int8(first), int8(second)}) != want {
				t.Errorf("order %d, %d: valid is not %v", first, second, want)
			}
		}
	}
}

func TestCompareBy(t *testing.T) {
	r := newRandom()
	for range 5000 {
		order, a, b := anyOrder(r), anyBook(r), anyBook(r)
		wantResults(t, fmt.Sprint("CompareBy ", order, a, b), all(impl.CompareBy(order, a, b)), slowCompare(order, a, b), code(impl.OK))
		if impl.CompareBooks(a, b) != slowCompare(usual, a, b) {
			t.Errorf("CompareBooks %v %v: %d", a, b, impl.CompareBooks(a, b))
		}
	}
	for _, bad := range booksOutside() {
		wantResults(t, "first bad", all(impl.CompareBy(usual, bad, plain)), int64(0), code(impl.ErrInvalid))
		wantResults(t, "second bad", all(impl.CompareBy(usual, plain, bad)), int64(0), code(impl.ErrInvalid))
	}
}

func TestCompareBooksNotValid(t *testing.T) {
	low := impl.Book{Class: math.MinInt16, Mark: [3]byte{0xff, 0xff, 0xff}, Volume: math.MaxInt16}
	high := impl.Book{Class: math.MaxInt16}
	inOrder := []impl.Book{
		low,
		{Class: -1, Volume: 3},
		{Volume: math.MinInt16},
		{Volume: math.MaxInt16},
		{Mark: [3]byte{0, 0, 1}},
		{Mark: [3]byte{0, 0, 0xff}},
		{Mark: [3]byte{0, 1, 0}},
		{Mark: [3]byte{'Z', 0xff, 0xff}},
		{Mark: [3]byte{0x7f, 0, 0}},
		{Mark: [3]byte{0x80, 0, 0}},
		{Mark: [3]byte{0xff, 0, 0}},
		high,
	}
	for i, a := range inOrder {
		for j, b := range inOrder {
			if got, want := impl.CompareBooks(a, b), int64(cmp.Compare(i, j)); got != want {
				t.Errorf("CompareBooks %v %v: %d, want %d", a, b, got, want)
			}
		}
	}
	// The other fields do not count.
	other := impl.Book{Class: math.MaxInt16, Wide: 1, High: -1, Weight: 7}
	if impl.CompareBooks(high, other) != 0 {
		t.Error("a field outside the usual order counts")
	}
}

// TestSortedLists is of promise 2: a sorted list has no pairs out of order, and all its books.
func TestSortedLists(t *testing.T) {
	r := newRandom()
	for round := range 400 {
		list := anyBooks(r, round%(impl.MaxBooks+1))
		sorted, c := impl.SortBooks(usual, list)
		if c != impl.OK || !sameCounts(sorted, list) || !slowSorted(sorted) {
			t.Fatalf("code %d: %v is not a sorted %v", c, sorted, list)
		}
		wantResults(t, "pairs of sorted", all(impl.PairsOut(sorted)), int64(0), code(impl.OK))
		wantResults(t, "sorted", all(impl.IsSorted(sorted)), true, code(impl.OK))
		wantResults(t, "first out of sorted", all(impl.FirstOut(sorted)), int64(0), code(impl.ErrNotFound))
		wantResults(t, "pairs", all(impl.PairsOut(list)), slowPairs(list), code(impl.OK))
		wantResults(t, "is sorted", all(impl.IsSorted(list)), slowSorted(list), code(impl.OK))
		order := anyOrder(r)
		got, c := impl.SortBooks(order, list)
		if want := slowSort(order, list); c != impl.OK || !slices.Equal(got, want) {
			t.Fatalf("code %d: order %v of %v is %v, want %v", c, order, list, got, want)
		}
	}
}

// TestEqualBooksStay is of promise 2: what is equal in an order stays as it was, with a minus as well.
func TestEqualBooksStay(t *testing.T) {
	var list []impl.Book
	for i := range int16(impl.MaxBooks) {
		list = append(list, bookOf(100+100*(i%2), "abc", 1+i%3, 1+i))
	}
	for _, order := range [][]int8{{impl.OrHigh}, {-impl.OrHigh}, {impl.OrMark, -impl.OrWide}} {
		got, c := impl.SortBooks(order, list)
		wantResults(t, fmt.Sprint("equal by ", order), all(got, c), list, code(impl.OK))
	}
	for _, order := range [][]int8{{impl.OrClass}, {-impl.OrClass}, usual, {-impl.OrClass, -impl.OrMark, -impl.OrVolume}} {
		got, _ := impl.SortBooks(order, list)
		for i := 1; i < len(got); i++ {
			c := slowCompare(order, got[i-1], got[i])
			if c > 0 || c == 0 && got[i-1].Weight >= got[i].Weight {
				t.Errorf("order %v: %v ahead of %v", order, got[i-1], got[i])
			}
		}
	}
}

func TestPairsOfEqualBooks(t *testing.T) {
	ahead, behind := bookOf(1, "aaa", 1, 1), bookOf(2, "aaa", 1, 1)
	lists := map[string][]impl.Book{
		"none": nil, "one": {ahead}, "equal": {ahead, ahead, ahead}, "twice": {behind, ahead, behind, ahead},
		"equal but for weight": {bookOf(2, "aaa", 1, 2), behind, ahead, bookOf(1, "aaa", 1, 9)},
		"all":                  append(slices.Repeat([]impl.Book{behind}, 30), slices.Repeat([]impl.Book{ahead}, 30)...),
	}
	wants := map[string]int64{"none": 0, "one": 0, "equal": 0, "twice": 3, "equal but for weight": 4, "all": 900}
	for name, list := range lists {
		wantResults(t, name, all(impl.PairsOut(list)), wants[name], code(impl.OK))
	}
}

func TestRuns(t *testing.T) {
	r := newRandom()
	for round := range 400 {
		list := anyBooks(r, round%(impl.MaxBooks+1))
		var begins []int64
		for i := range list {
			if i == 0 || slowCompare(usual, list[i], list[i-1]) < 0 {
				begins = append(begins, int64(i))
			}
		}
		wantResults(t, "runs", all(impl.RunsOf(list)), begins, code(impl.OK))
		if len(begins) > 1 {
			wantResults(t, "first out", all(impl.FirstOut(list)), begins[1], code(impl.OK))
		}
		first, longest := int64(0), int64(0)
		for _, begin := range begins {
			count := int64(1)
			for at := begin + 1; at < int64(len(list)) && !slices.Contains(begins, at); at++ {
				count++
			}
			if count > longest {
				first, longest = begin, count
			}
		}
		want := code(impl.OK)
		if len(list) == 0 {
			want = impl.ErrNotFound
		}
		wantResults(t, "longest", all(impl.LongestRun(list)), first, longest, want)
	}
}

func TestRunsOfFew(t *testing.T) {
	a, b, c := bookOf(1, "aaa", 1, 1), bookOf(2, "aaa", 1, 1), bookOf(3, "aaa", 1, 1)
	wantResults(t, "no runs", all(impl.RunsOf(nil)), []int64(nil), code(impl.OK))
	wantResults(t, "no longest", all(impl.LongestRun(nil)), int64(0), int64(0), code(impl.ErrNotFound))
	wantResults(t, "none out", all(impl.FirstOut(nil)), int64(0), code(impl.ErrNotFound))
	wantResults(t, "one", all(impl.LongestRun([]impl.Book{a})), int64(0), int64(1), code(impl.OK))
	wantResults(t, "equal books are one run", all(impl.RunsOf([]impl.Book{a, a, b, b})), []int64{0}, code(impl.OK))
	wantResults(t, "the first of the longest", all(impl.LongestRun([]impl.Book{c, b, c, a, b, a})), int64(1), int64(2), code(impl.OK))
	wantResults(t, "the last is longest", all(impl.LongestRun([]impl.Book{c, a, b, c})), int64(1), int64(3), code(impl.OK))
	falling := []impl.Book{c, b, a}
	wantResults(t, "falling", all(impl.RunsOf(falling)), []int64{0, 1, 2}, code(impl.OK))
	wantResults(t, "falling, first out", all(impl.FirstOut(falling)), int64(1), code(impl.OK))
}

func TestTotals(t *testing.T) {
	wantResults(t, "none", all(impl.TotalsOf(nil)), [3]int64{}, code(impl.OK))
	great := impl.Book{Class: 999, Mark: [3]byte{'z', 'z', 'z'}, Volume: 99, Wide: 100, High: 400, Weight: 9999}
	full := slices.Repeat([]impl.Book{great}, impl.MaxBooks)
	wantResults(t, "full", all(impl.TotalsOf(full)), [3]int64{6000, 400, 599940}, code(impl.OK))
	wantResults(t, "the first is highest", all(impl.TotalsOf([]impl.Book{great, plain})), [3]int64{125, 400, 10799}, code(impl.OK))
	for _, bad := range booksOutside() {
		wantResults(t, "bad", all(impl.TotalsOf([]impl.Book{plain, bad})), [3]int64{}, code(impl.ErrInvalid))
	}
}

func TestHundreds(t *testing.T) {
	wantResults(t, "none", all(impl.CountByHundreds(nil)), [10]int64{}, code(impl.OK))
	var list []impl.Book
	for h := range int16(10) {
		list = append(list, bookOf(100*h, "aaa", 1, 1), bookOf(100*h+99, "aaa", 1, 1))
	}
	wantResults(t, "bounds", all(impl.CountByHundreds(list)), [10]int64{2, 2, 2, 2, 2, 2, 2, 2, 2, 2}, code(impl.OK))
	full := slices.Repeat([]impl.Book{bookOf(799, "aaa", 1, 1)}, impl.MaxBooks)
	wantResults(t, "full", all(impl.CountByHundreds(full)), [10]int64{7: 60}, code(impl.OK))
	for _, bad := range booksOutside() {
		wantResults(t, "bad", all(impl.CountByHundreds([]impl.Book{plain, bad})), [10]int64{}, code(impl.ErrInvalid))
	}
}
