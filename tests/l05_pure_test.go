package tests

import (
	"fmt"
	"math"
	"math/rand/v2"
	"slices"
	"strings"
	"testing"

	"loop.example/g01326/impl"
)

// onRacks are the arguments from which each call of chapter 5 takes what it needs.
type onRacks struct {
	r, other         impl.Rack
	b                impl.Book
	list             []impl.Book
	years            [][]impl.Book
	places, at, most int64
	text             string
}

// rackCall is a function of chapter 5 with its arguments chosen. ofRack, ofOther, ofBook and ofList tell of what it returns ErrInvalid.
type rackCall struct {
	name                            string
	hasCode                         bool
	ofRack, ofOther, ofBook, ofList bool
	run                             func(g onRacks) []any
}

// rackCalls lists all functions of chapter 5.
func rackCalls() []rackCall {
	const yes, no = true, false
	return []rackCall{
		{"ValidRack", no, no, no, no, no, func(g onRacks) []any { return all(impl.ValidRack(g.r)) }},
		{"SameRack", no, no, no, no, no, func(g onRacks) []any { return all(impl.SameRack(g.r, g.other)) }},
		{"EmptyRack", yes, no, no, no, no, func(g onRacks) []any { return all(impl.EmptyRack(g.places)) }},
		{"BooksIn", yes, yes, no, no, no, func(g onRacks) []any { return all(impl.BooksIn(g.r)) }},
		{"FreePlaces", yes, yes, no, no, no, func(g onRacks) []any { return all(impl.FreePlaces(g.r)) }},
		{"RoomFor", yes, yes, no, yes, no, func(g onRacks) []any { return all(impl.RoomFor(g.r, g.b)) }},
		{"NeedsMoved", yes, yes, no, yes, no, func(g onRacks) []any { return all(impl.NeedsMoved(g.r, g.b)) }},
		{"AddBook", yes, yes, no, yes, no, func(g onRacks) []any { return all(impl.AddBook(g.r, g.b)) }},
		{"AddAll", yes, yes, no, no, yes, func(g onRacks) []any { return all(impl.AddAll(g.r, g.list)) }},
		{"TakeBook", yes, yes, no, no, no, func(g onRacks) []any { return all(impl.TakeBook(g.r, g.at)) }},
		{"SpreadRack", yes, yes, no, no, no, func(g onRacks) []any { return all(impl.SpreadRack(g.r)) }},
		{"FillRack", yes, no, no, no, yes, func(g onRacks) []any { return all(impl.FillRack(g.places, g.list)) }},
		{"CrowdOf", yes, yes, no, no, no, func(g onRacks) []any { return all(impl.CrowdOf(g.r)) }},
		{"WidestGap", yes, yes, no, no, no, func(g onRacks) []any { return all(impl.WidestGap(g.r)) }},
		{"MoveApart", yes, yes, yes, no, no, func(g onRacks) []any { return all(impl.MoveApart(g.r, g.other)) }},
		{"JoinRacks", yes, yes, yes, no, no, func(g onRacks) []any { return all(impl.JoinRacks(g.r, g.other)) }},
		{"SplitRack", yes, yes, no, no, no, func(g onRacks) []any { return all(impl.SplitRack(g.r, g.at)) }},
		{"GrowYears", yes, yes, no, no, no, func(g onRacks) []any { return all(impl.GrowYears(g.r, g.years, g.most)) }},
		{"RackText", no, no, no, no, no, func(g onRacks) []any { return all(impl.RackText(g.r)) }},
		{"ReadRack", yes, no, no, no, no, func(g onRacks) []any { return all(impl.ReadRack(g.text)) }},
	}
}

// anyOnRacks returns arguments that often belong together.
func anyOnRacks(r *rand.Rand) onRacks {
	g := onRacks{r: anyRack(r, 1+r.IntN(12)), b: anyBook(r), list: anyBooks(r, r.IntN(4))}
	// The other rack has the same books, or such as come behind them.
	g.other, _ = slowSpread(g.r)
	if r.IntN(2) == 0 {
		g.other = impl.Rack{Places: 2, Books: []impl.Placed{{At: 1, Book: impl.Book{Class: 999, Mark: [3]byte{'z', 'z', 'z'}, Volume: 99, Wide: 1, High: 50, Weight: 1}}}}
	}
	if r.IntN(2) == 0 {
		g.list = slowSort(usual, g.list)
	}
	g.years = [][]impl.Book{anyBooks(r, r.IntN(2)), nil, anyBooks(r, r.IntN(2))}
	g.places, g.at, g.most = 1+int64(r.IntN(12)), int64(r.IntN(12)), int64(r.IntN(4))
	g.text = impl.RackText(g.r)
	return g
}

// manyOnRacks are arguments of all kinds, valid and not.
func manyOnRacks() []onRacks {
	r := newRandom()
	racks := append(racksInside(), racksOutside()...)
	lists := append(listsOutside(), nil, []impl.Book{}, slices.Repeat([]impl.Book{plain}, impl.MaxBooks))
	years := [][][]impl.Book{nil, {}, {nil}, make([][]impl.Book, impl.MaxYears), make([][]impl.Book, impl.MaxYears+1)}
	for _, list := range lists {
		years = append(years, [][]impl.Book{list}, [][]impl.Book{{plain}, list})
	}
	singles := []int64{0, -1, 60, 61, math.MinInt64, math.MaxInt64}
	texts := []string{"", " ", "\n", "0\n", "61\n", "5", "5\n\n", "05\n", "\xff\x00"}
	var out []onRacks
	for range 800 {
		g := anyOnRacks(r)
		switch r.IntN(16) {
		case 0:
			g.r = pickOf(r, racks...)
		case 1:
			g.other = pickOf(r, racks...)
		case 2:
			g.b = pickOf(r, booksOutside()...)
		case 3:
			g.list = pickOf(r, lists...)
		case 4:
			g.years = pickOf(r, years...)
		case 5:
			g.places, g.at = pickOf(r, singles...), pickOf(r, singles...)
		case 6:
			g.most = pickOf(r, singles...)
		case 7:
			g.text = pickOf(r, texts...)
		case 8:
			g.r = rackOf("bdf")
		}
		out = append(out, g)
	}
	return out
}

// roomyRacks returns the same arguments with new slices that have room behind them.
func roomyRacks(g onRacks) onRacks {
	fill := bookOf(7, "fil", 1, 1)
	g.r.Books = withRoom(g.r.Books, impl.Placed{At: 7, Book: fill})
	g.other.Books = withRoom(g.other.Books, impl.Placed{At: 8, Book: fill})
	g.list = withRoom(g.list, fill)
	years := g.years
	g.years = nil
	for _, list := range years {
		g.years = append(g.years, withRoom(list, fill))
	}
	g.years = withRoom(g.years, []impl.Book{fill})
	return g
}

// wholeRacks returns a copy of all arguments, with all capacity of their slices.
func wholeRacks(g onRacks) onRacks {
	g.r.Books = whole(g.r.Books)
	g.other.Books = whole(g.other.Books)
	g.list = whole(g.list)
	g.years = whole(g.years)
	for i, list := range g.years {
		g.years[i] = whole(list)
	}
	return g
}

// TestPureRacks is of promise 1: no argument is changed or shared with a result, and equal arguments have equal results.
func TestPureRacks(t *testing.T) {
	for _, call := range rackCalls() {
		for _, g := range manyOnRacks() {
			wantPure(t, call.name, g, roomyRacks, wholeRacks, call.run)
		}
	}
}

// TestPartsOfRacks is of promise 1: the parts of a rack share no memory, not even behind their ends.
func TestPartsOfRacks(t *testing.T) {
	low, high, _ := impl.SplitRack(rackOf("ab.cde"), 3)
	spoil(all(low))
	wantResults(t, "the higher part", all(shown(high)), "cde")
	low, high, _ = impl.SplitRack(rackOf("ab.cde"), 3)
	spoil(all(high))
	wantResults(t, "the lower part", all(shown(low)), "ab.")
}

// TestZeroBesideErrorsOfRacks is of promise 1: beside an error all other results are zero values.
func TestZeroBesideErrorsOfRacks(t *testing.T) {
	for _, call := range rackCalls() {
		if call.hasCode {
			wantZeroBesideErrors(t, call.name, manyOnRacks(), call.run)
		}
	}
}

// TestInvalidFirstOfRacks is of promise 1: racks, books and lists that are not valid are told ahead of all other errors, and without one.
func TestInvalidFirstOfRacks(t *testing.T) {
	full := rackOf("c")
	good := onRacks{r: rackOf(".b."), other: rackOf("c"), b: lettered('d'), list: books("ab"), places: 5, at: 1, most: 1}
	// All else is wrong: the rack is full, the other one is ahead of it, the list is not sorted, and no place is there.
	wrong := onRacks{r: full, other: rackOf("a"), b: lettered('d'), list: books("ba"), places: 0, at: -1, most: -1, years: make([][]impl.Book, impl.MaxYears+1)}
	for _, call := range rackCalls() {
		wantInvalid := func(name string, g onRacks) {
			t.Helper()
			results := call.run(g)
			if c := results[len(results)-1]; c != code(impl.ErrInvalid) {
				t.Errorf("%s, %s: code %v", call.name, name, c)
			}
		}
		for _, base := range []onRacks{good, wrong} {
			for _, r := range racksOutside() {
				g := base
				if g.r = r; call.ofRack {
					wantInvalid(fmt.Sprint("rack ", r), g)
				}
				g = base
				if g.other = r; call.ofOther {
					wantInvalid(fmt.Sprint("other rack ", r), g)
				}
			}
			for _, b := range booksOutside() {
				g := base
				if g.b = b; call.ofBook {
					wantInvalid(fmt.Sprint("book ", b), g)
				}
			}
			for _, list := range listsOutside() {
				g := base
				if g.list = list; call.ofList {
					wantInvalid(fmt.Sprint("list ", list), g)
				}
			}
		}
	}
}

// TestRacksReturnForGreatArguments is of promise 1: every function returns for a million elements.
func TestRacksReturnForGreatArguments(t *testing.T) {
	const many = 1_000_000
	texts := []string{strings.Repeat("0", many), strings.Repeat("9", many), strings.Repeat(" ", many), strings.Repeat("\n", many), strings.Repeat("5\n", many/2),
		"60\n" + strings.Repeat("1 513 euc 1 25x240 800\n", many/23)}
	great := onRacks{r: impl.Rack{Places: math.MaxInt16, Books: make([]impl.Placed, many)}, list: make([]impl.Book, many), years: make([][]impl.Book, many)}
	for i := range great.r.Books {
		great.r.Books[i] = impl.Placed{At: int16(i), Book: plain}
	}
	great.other = impl.Rack{Places: math.MaxInt16, Books: slices.Clone(great.r.Books)}
	great.places, great.at, great.most = math.MaxInt64, math.MinInt64, math.MaxInt64
	sixty := great
	sixty.r.Places, sixty.other.Places = 60, 60
	valid := great
	valid.r, valid.other, valid.b = rackOf(".b."), rackOf("c"), plain
	for _, call := range rackCalls() {
		for _, text := range texts {
			great.text, sixty.text = text, text
			for _, g := range []onRacks{great, sixty} {
				results := call.run(g)
				if call.hasCode && results[len(results)-1] == code(impl.OK) {
					t.Errorf("%s accepts a million elements", call.name)
				}
			}
		}
		call.run(valid)
	}
	wantResults(t, "a million equal books", all(impl.SameRack(great.r, great.other), impl.ValidRack(great.r), impl.ValidRack(sixty.r)), true, false, false)
	wantResults(t, "a million years", all(impl.GrowYears(valid.r, great.years, 0)), impl.Rack{}, []int64(nil), code(impl.ErrRange))
}

// TestGreatestGrowth is of promise 1: what has all limits at once is done as well.
func TestGreatestGrowth(t *testing.T) {
	// Three books a year, each one ahead of all that are there.
	var years [][]impl.Book
	for year := range impl.MaxYears {
		var list []impl.Book
		for i := range 3 {
			list = append(list, bookOf(int16(900-3*year-i), "zzz", 99, 9999))
		}
		years = append(years, list)
	}
	empty := rackOf(strings.Repeat(".", impl.MaxPlaces))
	for _, most := range []int64{0, 1, 29, 58, 59, 60} {
		want, moved, _ := slowGrown(empty, years, most)
		got, counts, cd := impl.GrowYears(empty, years, most)
		wantResults(t, fmt.Sprint("most ", most), all(impl.SameRack(got, want), counts, cd), true, moved, code(impl.OK))
		wantResults(t, fmt.Sprint("most ", most), all(slowValidRack(got), len(got.Books), got.Books[0].Book), true, impl.MaxPlaces, years[19][2])
	}
}
