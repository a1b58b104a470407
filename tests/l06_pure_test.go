package tests

import (
	"fmt"
	"math"
	"math/rand/v2"
	"slices"
	"strings"
	"testing"

	"loop.example/g01326/impl"
)

// atDesk are the arguments from which each call of chapter 6 takes what it needs.
type atDesk struct {
	d, other         impl.Desk
	a                impl.Act
	list             []impl.Act
	books, who, book int64
	text             string
}

// deskCall is a function of chapter 6 with its arguments chosen; ofDesk tells that it returns ErrInvalid of a desk.
type deskCall struct {
	name            string
	hasCode, ofDesk bool
	run             func(g atDesk) []any
}

// deskCalls lists all functions of chapter 6.
func deskCalls() []deskCall {
	const yes, no = true, false
	return []deskCall{
		{"ValidDesk", no, no, func(g atDesk) []any { return all(impl.ValidDesk(g.d)) }},
		{"SameDesk", no, no, func(g atDesk) []any { return all(impl.SameDesk(g.d, g.other)) }},
		{"EmptyDesk", yes, no, func(g atDesk) []any { return all(impl.EmptyDesk(g.books)) }},
		{"ApplyAct", yes, yes, func(g atDesk) []any { return all(impl.ApplyAct(g.d, g.a)) }},
		{"ApplyActs", yes, yes, func(g atDesk) []any { return all(impl.ApplyActs(g.d, g.list)) }},
		{"FirstRefused", yes, yes, func(g atDesk) []any { return all(impl.FirstRefused(g.d, g.list)) }},
		{"MayLend", yes, yes, func(g atDesk) []any { return all(impl.MayLend(g.d, g.who, g.book)) }},
		{"LoansOf", yes, yes, func(g atDesk) []any { return all(impl.LoansOf(g.d, g.who)) }},
		{"AskedBy", yes, yes, func(g atDesk) []any { return all(impl.AskedBy(g.d, g.who)) }},
		{"OverdueBooks", yes, yes, func(g atDesk) []any { return all(impl.OverdueBooks(g.d)) }},
		{"FineOf", yes, yes, func(g atDesk) []any { return all(impl.FineOf(g.d, g.book)) }},
		{"NextDue", yes, yes, func(g atDesk) []any { return all(impl.NextDue(g.d)) }},
		{"Dummies", yes, yes, func(g atDesk) []any { return all(impl.Dummies(g.d)) }},
		{"PlaceInQueue", yes, yes, func(g atDesk) []any { return all(impl.PlaceInQueue(g.d, g.who, g.book)) }},
		{"WaitAtMost", yes, yes, func(g atDesk) []any { return all(impl.WaitAtMost(g.d, g.who, g.book)) }},
		{"CountStates", yes, yes, func(g atDesk) []any { return all(impl.CountStates(g.d)) }},
		{"ActText", no, no, func(g atDesk) []any { return all(impl.ActText(g.a)) }},
		{"ReadAct", yes, no, func(g atDesk) []any { return all(impl.ReadAct(g.text)) }},
		{"ActsText", no, no, func(g atDesk) []any { return all(impl.ActsText(g.list)) }},
		{"ReadActs", yes, no, func(g atDesk) []any { return all(impl.ReadActs(g.text)) }},
	}
}

// anyAtDesk returns arguments that often belong together.
func anyAtDesk(r *rand.Rand) atDesk {
	books := 1 + r.IntN(6)
	g := atDesk{a: anyAct(r, books), books: int64(books), who: int64(r.IntN(7)), book: int64(r.IntN(books))}
	g.d, g.list = goodLog(r, books, r.IntN(12))
	g.other = copyDesk(g.d)
	g.text = impl.ActsText(g.list)
	if r.IntN(2) == 0 {
		g.text = impl.ActText(g.a)
	}
	if r.IntN(3) == 0 {
		g.list = append(g.list, anyAct(r, books))
	}
	return g
}

// manyAtDesk are arguments of all kinds, valid and not.
func manyAtDesk() []atDesk {
	r := newRandom()
	desks := append(desksInside(), desksOutside()...)
	logs := [][]impl.Act{nil, {}, days(impl.MaxActs), days(impl.MaxActs + 1), actsOutside()}
	singles := []int64{0, -1, 49, 50, 59, 60, 61, math.MinInt64, math.MaxInt64}
	texts := []string{"", " ", "\n", "day", "day\n", "lend 1", "lend 50 0", "lend 1 60\n", "\xff\x00"}
	var out []atDesk
	for range 800 {
		g := anyAtDesk(r)
		switch r.IntN(12) {
		case 0, 1:
			g.d = pickOf(r, desks...)
		case 2:
			g.other = pickOf(r, desks...)
		case 3:
			g.a = pickOf(r, actsOutside()...)
		case 4:
			g.list = pickOf(r, logs...)
		case 5:
			g.books, g.who, g.book = pickOf(r, singles...), pickOf(r, singles...), pickOf(r, singles...)
		case 6:
			g.text = pickOf(r, texts...)
		case 7:
			// Somebody waits for the book.
			g.who, g.book, g.d.Copies = 2, 0, []impl.Copy{pickOf(r, lent(1, g.d.Day, 0, 3, 2), held(1, g.d.Day, 2, 3))}
		}
		out = append(out, g)
	}
	return out
}

// roomyDesk returns the same desk with new slices that have room behind them.
func roomyDesk(d impl.Desk) impl.Desk {
	d.Copies = withRoom(d.Copies, lent(7, 7, 1, 8))
	for i := range d.Copies {
		d.Copies[i].Queue = withRoom(d.Copies[i].Queue, 7)
	}
	return d
}

// wholeDesk returns a copy of a desk, with all capacity of its slices.
func wholeDesk(d impl.Desk) impl.Desk {
	d.Copies = whole(d.Copies)
	for i := range d.Copies {
		d.Copies[i].Queue = whole(d.Copies[i].Queue)
	}
	return d
}

// roomyAtDesk returns the same arguments with new slices that have room behind them.
func roomyAtDesk(g atDesk) atDesk {
	g.d, g.other, g.list = roomyDesk(g.d), roomyDesk(g.other), withRoom(g.list, impl.Act{What: 7, Who: 7, Book: 7})
	return g
}

// wholeAtDesk returns a copy of all arguments, with all capacity of their slices.
func wholeAtDesk(g atDesk) atDesk {
	g.d, g.other, g.list = wholeDesk(g.d), wholeDesk(g.other), whole(g.list)
	return g
}

// TestPureDesks is of promise 1: no argument is changed or shared with a result, and equal arguments have equal results.
func TestPureDesks(t *testing.T) {
	for _, call := range deskCalls() {
		for _, g := range manyAtDesk() {
			wantPure(t, call.name, g, roomyAtDesk, wholeAtDesk, call.run)
		}
	}
}

// TestQueuesOfDesks is of promise 1: the queues of a desk share no memory, not even behind their ends.
func TestQueuesOfDesks(t *testing.T) {
	queue := []int8{2, 3, 4}
	d := deskOf(5, lent(1, 5, 0, queue...), lent(1, 5, 0, queue...), held(1, 5, queue...), held(1, 9, queue...))
	for _, a := range []impl.Act{act("return 1 0"), act("ask 5 0"), act("drop 3 0"), act("drop 1 2"), act("day")} {
		for spoiled := range d.Copies {
			after, _, _ := impl.ApplyAct(d, a)
			kept := copyDesk(after)
			spoil(all(after.Copies[spoiled].Queue))
			for book, c := range after.Copies {
				if book != spoiled && fmt.Sprint(c) != fmt.Sprint(kept.Copies[book]) {
					t.Errorf("%v: the queues of the books %d and %d share memory", a, spoiled, book)
				}
			}
		}
	}
	if !slices.Equal(queue, []int8{2, 3, 4}) {
		t.Errorf("the queue has become %v", queue)
	}
}

// TestZeroBesideErrorsOfDesks is of promise 1: beside an error all other results are zero values.
func TestZeroBesideErrorsOfDesks(t *testing.T) {
	for _, call := range deskCalls() {
		if call.hasCode {
			wantZeroBesideErrors(t, call.name, manyAtDesk(), call.run)
		}
	}
}

// TestInvalidFirstOfDesks is of promise 1: desks that are not valid are told ahead of all other errors, and without one.
func TestInvalidFirstOfDesks(t *testing.T) {
	good := atDesk{a: act("day"), list: acts("day, day"), who: 1, book: 0}
	// There are no such people, books and acts, and too many of these.
	wrong := atDesk{a: impl.Act{What: 9, Who: -1, Book: -1}, list: append(actsOutside(), days(impl.MaxActs)...), who: -1, book: -1}
	refused := atDesk{a: act("ask 1 0"), list: acts("ask 1 0"), who: 49, book: 59}
	for _, call := range deskCalls() {
		for _, g := range []atDesk{good, wrong, refused} {
			for _, d := range desksOutside() {
				if !call.ofDesk {
					continue
				}
				g.d = d
				results := call.run(g)
				if c := results[len(results)-1]; c != code(impl.ErrInvalid) {
					t.Errorf("%s, %v: code %v", call.name, d, c)
				}
			}
		}
	}
}

// TestDesksReturnForGreatArguments is of promise 1: every function returns for a million elements.
func TestDesksReturnForGreatArguments(t *testing.T) {
	const million = 1_000_000
	texts := []string{strings.Repeat("0", million), strings.Repeat("a", million), strings.Repeat(" ", million), strings.Repeat("\n", million), strings.Repeat("day", million/3), strings.Repeat("day\n", million/4), "lend " + strings.Repeat("1", million), strings.Repeat("lend 1 0\n", million/9)}
	great := deskOf(5, make([]impl.Copy, million)...)
	queued := deskOf(5, lent(1, 5, 0, make([]int8, million)...), held(1, 5, make([]int8, million)...), impl.Copy{Queue: make([]int8, million)})
	var many []atDesk
	for _, d := range []impl.Desk{great, queued, deskOf(5, queued.Copies[1]), deskOf(5, queued.Copies[2])} {
		many = append(many, atDesk{d: d, other: copyDesk(d), list: days(million), books: math.MaxInt64, who: math.MinInt64, book: math.MaxInt64})
	}
	for _, text := range texts {
		many = append(many, atDesk{d: deskOf(-1), list: days(million), books: math.MinInt64, text: text})
	}
	for _, call := range deskCalls() {
		for _, g := range many {
			// The empty text is one of acts.
			results := call.run(g)
			if call.hasCode && results[len(results)-1] == code(impl.OK) && (call.ofDesk || g.text != "") {
				t.Errorf("%s accepts a million elements", call.name)
			}
		}
	}
	wantResults(t, "a million copies", all(impl.SameDesk(great, copyDesk(great)), impl.ValidDesk(great), impl.ValidDesk(queued)), true, false, false)
	wantResults(t, "a million in queues", all(impl.SameDesk(queued, copyDesk(queued))), true)
	wantResults(t, "a million acts", all(impl.ApplyActs(deskOf(0), days(million))), impl.Desk{}, int64(0), code(impl.ErrLimit))
}
