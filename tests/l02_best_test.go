package tests

import (
	"fmt"
	"math"
	"math/rand/v2"
	"slices"
	"testing"

	"loop.example/g01326/impl"
)

// TestBestLayouts is of promise 5: of all layouts none uses fewer shelves, and none costs less; of several best ones the last one is told.
func TestBestLayouts(t *testing.T) {
	r := newRandom()
	several, none := 0, 0
	for round := range 600 {
		c := anyCase(r, 1+round%5)
		list := smallBooks(r, r.IntN(7))
		every := layouts(c, list)
		name := fmt.Sprint(" of ", list, " on ", c)
		few, used, usedCode := slowBest(every, func(ends []int64) int64 { return slowUsed(c, list, ends) })
		cheap, cost, costCode := slowBest(every, func(ends []int64) int64 { return slowCost(c, list, ends) })
		wantResults(t, "fewest"+name, all(impl.FewestShelves(c, list)), few, used, usedCode)
		wantResults(t, "least cost"+name, all(impl.LeastCost(c, list)), cheap, cost, costCode)
		if len(every) == 0 {
			none++
			wantResults(t, "no filled shelves"+name, all(impl.FillShelves(c, list)), []int64(nil), code(impl.ErrNotFound))
			continue
		}
		best := slices.DeleteFunc(every, func(ends []int64) bool { return slowCost(c, list, ends) > cost })
		if len(best) > 1 {
			several++
		}
	}
	if several < 50 || none < 50 {
		t.Errorf("%d with several best layouts, %d without one", several, none)
	}
}

func TestSeveralBest(t *testing.T) {
	c := impl.Case{Wide: 10, Load: 100, Heights: []int16{100, 100, 100}}
	wantResults(t, "fewest of no books", all(impl.FewestShelves(c, nil)), []int64{0, 0, 0}, int64(0), code(impl.OK))
	wantResults(t, "least cost of no books", all(impl.LeastCost(c, []impl.Book{})), []int64{0, 0, 0}, int64(0), code(impl.OK))
	wantResults(t, "fewest of one", all(impl.FewestShelves(c, wides(4))), []int64{1, 1, 1}, int64(1), code(impl.OK))
	wantResults(t, "least cost of one", all(impl.LeastCost(c, wides(4))), []int64{1, 1, 1}, int64(36), code(impl.OK))
	// 6+4 and 6, or 6 and 4+6, are two shelves with 0 and 4 free.
	wantResults(t, "fewest", all(impl.FewestShelves(c, wides(6, 4, 6))), []int64{2, 3, 3}, int64(2), code(impl.OK))
	wantResults(t, "least cost", all(impl.LeastCost(c, wides(6, 4, 6))), []int64{2, 3, 3}, int64(16), code(impl.OK))
	// 5, 5 and 2, or 5 and 5, 2, are 64 and 34; of the fewest ones the first shelf has the most books.
	wantResults(t, "fewest as high as can be", all(impl.FewestShelves(c, wides(5, 5, 2))), []int64{2, 3, 3}, int64(2), code(impl.OK))
	wantResults(t, "least cost lower", all(impl.LeastCost(c, wides(5, 5, 2))), []int64{1, 3, 3}, int64(34), code(impl.OK))
	// A single book on a full shelf leaves nothing free: more shelves may cost less.
	costly := []impl.Book{size(10, 100, 30), size(9, 100, 30), size(1, 100, 30), size(10, 100, 70)}
	wantResults(t, "nothing wasted", all(impl.LeastCost(c, costly)), []int64{1, 3, 4}, int64(0), code(impl.OK))
}

// TestEmptyShelvesAreBest has cases for which shelves ahead of books, or between them, stay empty.
func TestEmptyShelvesAreBest(t *testing.T) {
	low := impl.Case{Wide: 10, Load: 100, Heights: []int16{50, 100, 50, 100}}
	list := []impl.Book{size(2, 50, 1), size(3, 100, 1), size(3, 100, 1)}
	wantResults(t, "filled", all(impl.FillShelves(low, list)), []int64{1, 3, 3, 3}, code(impl.OK))
	wantResults(t, "fewest", all(impl.FewestShelves(low, list)), []int64{0, 3, 3, 3}, int64(1), code(impl.OK))
	wantResults(t, "least cost", all(impl.LeastCost(low, list)), []int64{0, 3, 3, 3}, int64(4), code(impl.OK))
	wider := []impl.Book{size(9, 100, 1), size(9, 100, 1)}
	wantResults(t, "fewest between", all(impl.FewestShelves(low, wider)), []int64{0, 1, 1, 2}, int64(2), code(impl.OK))
	wantResults(t, "least cost between", all(impl.LeastCost(low, wider)), []int64{0, 1, 1, 2}, int64(2), code(impl.OK))
}

func TestNoLayout(t *testing.T) {
	c := impl.Case{Wide: 10, Load: 100, Heights: []int16{100, 50}}
	for _, list := range [][]impl.Book{wides(11), wides(10, 1), {size(1, 101, 1)}, {size(1, 50, 101)}, {size(1, 50, 60), size(1, 100, 60)}, {size(1, 50, 1), size(1, 50, 1), size(1, 400, 1)}} {
		wantResults(t, "fewest", all(impl.FewestShelves(c, list)), []int64(nil), int64(0), code(impl.ErrNotFound))
		wantResults(t, "least cost", all(impl.LeastCost(c, list)), []int64(nil), int64(0), code(impl.ErrNotFound))
		table, cd := impl.TableOf(c, list)
		if cd != impl.OK || table[0][0] != -1 {
			t.Errorf("code %d: table %v of %v", cd, table, list)
		}
		wantResults(t, "check", all(impl.CheckTable(c, list, table)), true, code(impl.OK))
		wantResults(t, "proved", all(impl.ProvedCost(c, list, table)), int64(0), code(impl.ErrNotFound))
	}
	barely := []impl.Book{size(10, 100, 100), size(10, 50, 100)}
	wantResults(t, "bounds reached", all(impl.LeastCost(c, barely)), []int64{1, 2}, int64(0), code(impl.OK))
}

// TestTableNumbers compares each number of a table with the least cost of all layouts of what it is about.
func TestTableNumbers(t *testing.T) {
	r := newRandom()
	for round := range 250 {
		c := anyCase(r, 1+round%4)
		list := smallBooks(r, r.IntN(6))
		table, cd := impl.TableOf(c, list)
		if cd != impl.OK || len(table) != len(c.Heights)+1 {
			t.Fatalf("code %d: %d lists for %v", cd, len(table), c)
		}
		for shelf := range c.Heights {
			wantNumbers(t, c, list, shelf, table[shelf])
		}
		last := slices.Repeat([]int64{-1}, len(list)+1)
		last[len(list)] = 0
		wantResults(t, "behind the last shelf", all(table[len(c.Heights)]), last)
	}
}

// wantNumbers checks the list of a table for one shelf.
func wantNumbers(t *testing.T, c impl.Case, list []impl.Book, shelf int, numbers []int64) {
	t.Helper()
	if len(numbers) != len(list)+1 {
		t.Fatalf("%d numbers for %d books", len(numbers), len(list))
	}
	below := impl.Case{Wide: c.Wide, Load: c.Load, Heights: c.Heights[shelf:]}
	for book, n := range numbers {
		rest := list[book:]
		_, want, cd := slowBest(layouts(below, rest), func(ends []int64) int64 { return slowCost(below, rest, ends) })
		if cd != impl.OK {
			want = -1
		}
		if n != want {
			t.Errorf("shelf %d, book %d of %v on %v: %d, want %d", shelf, book, list, c, n, want)
		}
	}
}

// TestTableProves is of promise 5: a table is a proof, what it proves is the least cost, and no layout costs less than any proof says.
func TestTableProves(t *testing.T) {
	r := newRandom()
	for round := range 300 {
		c := anyCase(r, 1+round%impl.MaxShelves)
		list := smallBooks(r, r.IntN(1+min(impl.MaxBooks, 4*len(c.Heights))))
		table, _ := impl.TableOf(c, list)
		wantResults(t, "check", all(impl.CheckTable(c, list, table)), true, code(impl.OK))
		if !slowProof(c, list, table) {
			t.Fatalf("%v is no proof of %v on %v", table, list, c)
		}
		ends, cost, cd := impl.LeastCost(c, list)
		wantResults(t, "proved", all(impl.ProvedCost(c, list, table)), cost, cd)
		if cd == impl.ErrNotFound {
			continue
		}
		wantResults(t, "its cost", all(impl.CostOf(c, list, ends)), cost, code(impl.OK))
		few, used, _ := impl.FewestShelves(c, list)
		wantResults(t, "its shelves", all(impl.UsedShelves(c, list, few)), used, code(impl.OK))
		fill, _ := impl.FillShelves(c, list)
		for _, other := range [][]int64{fill, few, ends} {
			otherCost, _ := impl.CostOf(c, list, other)
			otherUsed, _ := impl.UsedShelves(c, list, other)
			if otherCost < cost || otherUsed < used {
				t.Errorf("%v costs %d, not %d, and uses %d shelves, not %d", other, otherCost, cost, otherUsed, used)
			}
		}
	}
}

// ahead is the best way of putting the first books upon the first shelves.
type ahead struct {
	can  bool
	sum  int64
	ends []int64
}

// better reports whether a way has a lesser sum, or the same one and comes later as a list.
func (a ahead) better(b ahead) bool {
	return !b.can || a.sum < b.sum || a.sum == b.sum && slices.Compare(a.ends, b.ends) > 0
}

// bestAhead goes from the first shelf on, which the program does not, and keeps whole lists.
func bestAhead(c impl.Case, list []impl.Book, number func(free int64) int64) ahead {
	ways := make([]ahead, len(list)+1)
	ways[0].can = true
	for shelf := range c.Heights {
		next := make([]ahead, len(list)+1)
		for from, way := range ways {
			for behind := from; way.can && behind <= len(list) && slowFits(c, shelf, list[from:behind]); behind++ {
				sum := way.sum
				if behind > from {
					free := int64(c.Wide)
					for _, b := range list[from:behind] {
						free -= int64(b.Wide)
					}
					sum += number(free)
				}
				now := ahead{true, sum, append(slices.Clone(way.ends), int64(behind))}
				if now.better(next[behind]) {
					next[behind] = now
				}
			}
		}
		ways = next
	}
	return ways[len(list)]
}

// TestBestOfMany is of promise 5 for as many books and shelves as there can be.
func TestBestOfMany(t *testing.T) {
	r := newRandom()
	found := 0
	for round := range 120 {
		c := impl.Case{Wide: 150 + int16(r.IntN(2))*1850, Load: int32(pickOf(r, 20000, 60000, 200000)), Heights: nil}
		for range 6 + round%7 {
			c.Heights = append(c.Heights, pickOf[int16](r, 60, 225, 400, 1000, 1000))
		}
		var list []impl.Book
		for range r.IntN(impl.MaxBooks + 1) {
			list = append(list, size(1+int16(r.IntN(30)), 50+int16(r.IntN(2))*175, 1+int16(r.IntN(9999))))
		}
		cheap := bestAhead(c, list, func(free int64) int64 { return free * free })
		few := bestAhead(c, list, func(int64) int64 { return 1 })
		want := code(impl.OK)
		if !cheap.can {
			want = impl.ErrNotFound
		} else {
			found++
		}
		wantResults(t, "least cost", all(impl.LeastCost(c, list)), cheap.ends, cheap.sum, want)
		wantResults(t, "fewest", all(impl.FewestShelves(c, list)), few.ends, few.sum, want)
	}
	if found < 40 {
		t.Errorf("%d layouts found", found)
	}
}

// changedTable returns a table with one number changed a bit, or much.
func changedTable(r *rand.Rand, table [][]int64) [][]int64 {
	out := copyTable(table)
	numbers := out[r.IntN(len(out))]
	at := r.IntN(len(numbers))
	numbers[at] = pickOf(r, numbers[at]+1, numbers[at]-1, 0, -1, -2, numbers[at]+100, math.MaxInt64, math.MinInt64)
	return out
}

// TestCheckTable compares proofs with the document's words, for tables in which some numbers are changed.
func TestCheckTable(t *testing.T) {
	r := newRandom()
	proofs, others := 0, 0
	for round := range 6000 {
		c := anyCase(r, 1+round%4)
		list := smallBooks(r, r.IntN(6))
		table, _ := impl.TableOf(c, list)
		for range 1 + r.IntN(4) {
			table = changedTable(r, table)
		}
		name := fmt.Sprint(table, " of ", list, " on ", c)
		proof := slowProof(c, list, table)
		wantResults(t, "check "+name, all(impl.CheckTable(c, list, table)), proof, code(impl.OK))
		switch {
		case !proof:
			others++
			wantResults(t, "proved "+name, all(impl.ProvedCost(c, list, table)), int64(0), code(impl.ErrProof))
		case table[0][0] == -1:
			wantResults(t, "proved "+name, all(impl.ProvedCost(c, list, table)), int64(0), code(impl.ErrNotFound))
		default:
			proofs++
			wantResults(t, "proved "+name, all(impl.ProvedCost(c, list, table)), table[0][0], code(impl.OK))
			if _, cost, cd := impl.LeastCost(c, list); cd == impl.OK && cost < table[0][0] {
				t.Errorf("%s: a layout costs %d", name, cost)
			}
		}
	}
	if proofs < 200 || others < 2000 {
		t.Errorf("%d proofs, %d others", proofs, others)
	}
}

// TestNumbersThatSayTooMuch raises each number of a table, and takes each one away.
func TestNumbersThatSayTooMuch(t *testing.T) {
	list, c := readList(t, exampleText), readCase(t, exampleCase)
	table, _ := impl.TableOf(c, list)
	for shelf := range table {
		for book, number := range table[shelf] {
			if number == -1 {
				continue
			}
			for _, n := range []int64{number + 1, -1, math.MaxInt64, -2, math.MinInt64} {
				wrong := copyTable(table)
				wrong[shelf][book] = n
				name := fmt.Sprint(shelf, " ", book, " as ", n)
				wantResults(t, name, all(impl.CheckTable(c, list, wrong)), false, code(impl.OK))
				wantResults(t, name, all(impl.ProvedCost(c, list, wrong)), int64(0), code(impl.ErrProof))
			}
		}
	}
	less := copyTable(table)
	less[0][0]--
	wantResults(t, "less is a proof of less", all(impl.ProvedCost(c, list, less)), int64(1324), code(impl.OK))
	nothing := copyTable(table)
	nothing[0] = make([]int64, 4)
	wantResults(t, "0 is a proof of nothing", all(impl.ProvedCost(c, list, nothing)), int64(0), code(impl.OK))
	for _, last := range [][]int64{{0, -1, -1, 0}, {-1, -1, 0, 0}, {-1, -1, -1, -1}, {-1, -1, -1, 1}, {-2, -1, -1, 0}} {
		wrong := copyTable(table)
		wrong[3] = last
		wantResults(t, fmt.Sprint("behind the last shelf ", last), all(impl.CheckTable(c, list, wrong)), false, code(impl.OK))
	}
}

func TestTablesOfWrongSize(t *testing.T) {
	list, c := readList(t, exampleText), readCase(t, exampleCase)
	table, _ := impl.TableOf(c, list)
	wrong := [][][]int64{nil, {}, {nil}, {nil, nil, nil, nil}, table[:3], table[1:], append(copyTable(table), table[3]), append([][]int64{table[0]}, table...)}
	for shelf := range table {
		for _, numbers := range [][]int64{nil, {}, table[shelf][:3], table[shelf][1:], append(slices.Clone(table[shelf]), 0), append(slices.Clone(table[shelf]), -1)} {
			other := copyTable(table)
			other[shelf] = numbers
			wrong = append(wrong, other)
		}
	}
	for _, other := range wrong {
		wantResults(t, fmt.Sprint(other), all(impl.CheckTable(c, list, other)), false, code(impl.OK))
		wantResults(t, fmt.Sprint(other), all(impl.ProvedCost(c, list, other)), int64(0), code(impl.ErrProof))
	}
	empty := [][]int64{{0}, {0}, {0}, {0}}
	wantResults(t, "of no books", all(impl.TableOf(c, nil)), empty, code(impl.OK))
	wantResults(t, "of no books", all(impl.ProvedCost(c, nil, empty)), int64(0), code(impl.OK))
	wantResults(t, "of no books", all(impl.CheckTable(c, nil, [][]int64{{0}, {0}, {1}, {0}})), false, code(impl.OK))
}

// TestGreatNumbersOfProofs has books that fit nowhere, so that a proof may say any number of them, but for what comes ahead.
func TestGreatNumbersOfProofs(t *testing.T) {
	const great = math.MaxInt64
	c := impl.Case{Wide: 2000, Load: 100, Heights: []int16{50, 50}}
	list := []impl.Book{size(1, 50, 1), size(1, 400, 1)}
	proof := [][]int64{{great, great, 0}, {great, great, 0}, {-1, -1, 0}}
	if !slowProof(c, list, proof) {
		t.Fatal("the table is no proof")
	}
	wantResults(t, "the greatest number", all(impl.CheckTable(c, list, proof)), true, code(impl.OK))
	wantResults(t, "the greatest number", all(impl.ProvedCost(c, list, proof)), int64(great), code(impl.OK))
	proof[1][0] = great - 1
	wantResults(t, "too much by 1", all(impl.CheckTable(c, list, proof)), false, code(impl.OK))
	proof[1][0] = -1
	proof[1][1] = great - 1999*1999
	wantResults(t, "all that may be said", all(impl.CheckTable(c, list, proof)), false, code(impl.OK))
	proof[0][1] = great - 1999*1999
	wantResults(t, "all that may be said", all(impl.CheckTable(c, list, proof)), true, code(impl.OK))
	proof[1][1]--
	proof[0][1]--
	wantResults(t, "too much by 1 with a book", all(impl.CheckTable(c, list, proof)), false, code(impl.OK))
}
