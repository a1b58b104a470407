package tests

import (
	"math/rand/v2"
	"reflect"
	"slices"
	"testing"

	"loop.example/g01326/impl"
)

// usual is the usual order as an order of fields.
var usual = []int8{impl.OrClass, impl.OrMark, impl.OrVolume}

// plain is a valid book, far from all bounds.
var plain = impl.Book{Class: 513, Mark: [3]byte{'e', 'u', 'c'}, Volume: 7, Wide: 25, High: 240, Weight: 800}

// exampleText is the list of the example of chapter 1.
const exampleText = "513 euc 1 25x240 800\n100 ari 2 30x200 500\n513 ari 1 20x210 300\n"

// newRandom returns the same numbers in each run of the tests.
func newRandom() *rand.Rand { return rand.New(rand.NewPCG(513, 1)) }

// readList reads a list that has to be valid.
func readList(t *testing.T, text string) []impl.Book {
	t.Helper()
	list, code := impl.ReadBooks(text)
	if code != impl.OK {
		t.Fatalf("ReadBooks(%q): code %d", text, code)
	}
	return list
}

// bookOf returns a valid book, which differs from others in the fields of the usual order and in its weight.
func bookOf(class int16, mark string, volume, weight int16) impl.Book {
	b := impl.Book{Class: class, Volume: volume, Wide: 10, High: 100, Weight: weight}
	copy(b.Mark[:], mark)
	return b
}

// anyBook returns a book with few values in each field, so that many are equal in some fields, and some in all.
func anyBook(r *rand.Rand) impl.Book {
	return impl.Book{
		Class:  int16(r.IntN(3)) * 499,
		Mark:   [3]byte{'a' + byte(r.IntN(2))*25, 'a' + byte(r.IntN(2)), 'a' + byte(r.IntN(2))},
		Volume: 1 + int16(r.IntN(2))*98,
		Wide:   1 + int16(r.IntN(2))*99,
		High:   50 + int16(r.IntN(3))*175,
		Weight: 1 + int16(r.IntN(4))*3000,
	}
}

// anyBooks returns a list of count books.
func anyBooks(r *rand.Rand, count int) []impl.Book {
	list := make([]impl.Book, count)
	for i := range list {
		list[i] = anyBook(r)
	}
	return list
}

// anyOrder returns a valid order with some fields, some of them with a minus.
func anyOrder(r *rand.Rand) []int8 {
	var order []int8
	for _, i := range r.Perm(6)[:1+r.IntN(6)] {
		field := int8(i + 1)
		if r.IntN(2) == 0 {
			field = -field
		}
		order = append(order, field)
	}
	return order
}

// slowField tells by the document's words which book one field puts first.
func slowField(field int8, a, b impl.Book) int64 {
	less, more := false, false
	switch max(field, -field) {
	case impl.OrClass:
		less, more = a.Class < b.Class, a.Class > b.Class
	case impl.OrMark:
		less, more = string(a.Mark[:]) < string(b.Mark[:]), string(a.Mark[:]) > string(b.Mark[:])
	case impl.OrVolume:
		less, more = a.Volume < b.Volume, a.Volume > b.Volume
	case impl.OrWide:
		less, more = a.Wide < b.Wide, a.Wide > b.Wide
	case impl.OrHigh:
		less, more = a.High < b.High, a.High > b.High
	case impl.OrWeight:
		less, more = a.Weight < b.Weight, a.Weight > b.Weight
	}
	if field < 0 {
		less, more = more, less
	}
	switch {
	case less:
		return -1
	case more:
		return 1
	}
	return 0
}

// slowCompare compares two books by an order, apart from the program.
func slowCompare(order []int8, a, b impl.Book) int64 {
	for _, field := range order {
		if c := slowField(field, a, b); c != 0 {
			return c
		}
	}
	return 0
}

// slowSort puts one book after the other behind all that it does not come ahead of.
func slowSort(order []int8, list []impl.Book) []impl.Book {
	var sorted []impl.Book
	for _, b := range list {
		at := len(sorted)
		for at > 0 && slowCompare(order, b, sorted[at-1]) < 0 {
			at--
		}
		sorted = slices.Insert(sorted, at, b)
	}
	return sorted
}

// slowSorted reports whether no two books of a list, next to each other or not, are out of order.
func slowSorted(list []impl.Book) bool { return slowPairs(list) == 0 }

// slowPairs counts the pairs out of order.
func slowPairs(list []impl.Book) int64 {
	pairs := int64(0)
	for i := range list {
		for j := range i {
			if slowCompare(usual, list[i], list[j]) < 0 {
				pairs++
			}
		}
	}
	return pairs
}

// countsOf counts equal books.
func countsOf(list []impl.Book) map[impl.Book]int {
	counts := map[impl.Book]int{}
	for _, b := range list {
		counts[b]++
	}
	return counts
}

// sameCounts reports whether two lists have the same books, each one as often.
func sameCounts(a, b []impl.Book) bool { return reflect.DeepEqual(countsOf(a), countsOf(b)) }

// isZero reports whether a result is a zero value; an empty slice is one, also as a field.
func isZero(result any) bool { return isZeroValue(reflect.ValueOf(result)) }

func isZeroValue(v reflect.Value) bool {
	switch v.Kind() {
	case reflect.Slice:
		return v.Len() == 0
	case reflect.Struct:
		for _, field := range v.Fields() {
			if !isZeroValue(field) {
				return false
			}
		}
		return true
	}
	return v.IsZero()
}

// wantResults compares results, nil and empty slices being equal.
func wantResults(t *testing.T, name string, got []any, want ...any) {
	t.Helper()
	if len(got) != len(want) {
		t.Fatalf("%s: %d results, want %d", name, len(got), len(want))
	}
	for i := range got {
		if isZero(got[i]) && isZero(want[i]) && reflect.TypeOf(got[i]) == reflect.TypeOf(want[i]) {
			continue
		}
		if !reflect.DeepEqual(got[i], want[i]) {
			t.Errorf("%s: result %d is %v, want %v", name, i, got[i], want[i])
		}
	}
}

// all gathers the results of a call.
func all(results ...any) []any { return results }

// code is an error code as the functions return it.
func code(c int64) int64 { return c }

// withRoom returns a copy with unused capacity, which is filled as far as it goes.
func withRoom[T any](list []T, fill T) []T {
	out := slices.Grow(slices.Clone(list), 9)
	rest := out[len(out):cap(out)]
	for i := range rest {
		rest[i] = fill
	}
	return out
}

// whole returns a copy of a slice with all of its capacity.
func whole[T any](list []T) []T { return slices.Clone(list[:cap(list)]) }

// spoil overwrites all slices among results, those inside of others and of structs too, with their unused capacity.
func spoil(results []any) {
	for _, result := range results {
		spoilValue(reflect.ValueOf(result))
	}
}

func spoilValue(v reflect.Value) {
	switch v.Kind() {
	case reflect.Slice:
		for i := range v.Len() {
			spoilValue(v.Index(i))
		}
		v.Slice(0, v.Cap()).Clear()
	case reflect.Struct:
		for _, field := range v.Fields() {
			spoilValue(field)
		}
	}
}

// wantPure is of promise 1: a call changes none of its arguments, shares no memory with them, and returns equal results for equal ones. roomy gives the same arguments with new slices that have room behind them, wholeOf copies them with all capacity.
func wantPure[G any](t *testing.T, name string, g G, roomy, wholeOf func(G) G, run func(G) []any) {
	t.Helper()
	first, second := roomy(g), roomy(g)
	wanted := wholeOf(first)
	results := run(first)
	wantResults(t, name+" again", run(second), results...)
	wantResults(t, name+" without room", run(g), results...)
	spoil(results)
	if now := wholeOf(first); !reflect.DeepEqual(now, wanted) {
		t.Fatalf("%s changes an argument of %v", name, g)
	}
	wantResults(t, name+" behind spoiled results", run(first), run(second)...)
}

// wantZeroBesideErrors is of promise 1: a call, which both fails and does not with some arguments, returns zero values beside each error.
func wantZeroBesideErrors[G any](t *testing.T, name string, many []G, run func(G) []any) {
	t.Helper()
	failed, done := 0, 0
	for _, g := range many {
		results := run(g)
		last := len(results) - 1
		c := results[last].(int64)
		if impl.CodeName(c) == "" {
			t.Errorf("%s returns the code %d", name, c)
		}
		if c == impl.OK {
			done++
			continue
		}
		failed++
		for _, result := range results[:last] {
			if !isZero(result) {
				t.Errorf("%s: %v beside the code %d", name, result, c)
			}
		}
	}
	if failed == 0 || done == 0 {
		t.Errorf("%s fails %d times here, and not %d times", name, failed, done)
	}
}
