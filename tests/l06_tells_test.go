package tests

import (
	"fmt"
	"math"
	"slices"
	"testing"

	"loop.example/g01326/impl"
)

// farPeople and farBooks are none of a person, and of a book of any desk.
func farPeople() []int64 {
	return []int64{-1, impl.MaxPeople, impl.MaxPeople + 1, 127, 128, 256, 256 + 1, 1 << 32, math.MinInt64, math.MaxInt64}
}

func farBooks(d impl.Desk) []int64 {
	return []int64{-1, int64(len(d.Copies)), impl.MaxBooks, impl.MaxBooks + 1, 127, 128, 256, 256 + 1, 1 << 32, math.MinInt64, math.MaxInt64}
}

// manyDesk has books in all states, one of them late by a day, and one due today, as of the day 9.
func manyDesk() impl.Desk {
	return deskOf(9, lent(1, 8, 0, 2, 3), onShelf, lent(1, 9, 1), held(2, 9, 3, 1), lent(0, 37, 2), held(1, 16), onShelf, lent(49, 0, 0, 0), held(0, 12, 49, 2, 4, 3))
}

// wantTells compares all that a desk tells with the document's words.
func wantTells(t *testing.T, d impl.Desk) {
	t.Helper()
	name := fmt.Sprint(d)
	wantResults(t, name, all(impl.OverdueBooks(d)), slowOverdue(d), code(impl.OK))
	wantResults(t, name, all(impl.Dummies(d)), slowBooks(d, func(c impl.Copy) bool { return c.State != impl.StShelf }), code(impl.OK))
	counts := [3]int64{}
	for state := range counts {
		counts[state] = int64(len(slowBooks(d, func(c impl.Copy) bool { return int(c.State) == state })))
	}
	wantResults(t, name, all(impl.CountStates(d)), counts, code(impl.OK))
	for who := range int8(impl.MaxPeople) {
		wantResults(t, name, all(impl.LoansOf(d, int64(who))), slowLoans(d, who), code(impl.OK))
		asked := slowBooks(d, func(c impl.Copy) bool {
			return slices.Contains(c.Queue, who) || c.State == impl.StHeld && c.Who == who
		})
		wantResults(t, name, all(impl.AskedBy(d, int64(who))), asked, code(impl.OK))
	}
	for book := range d.Copies {
		wantResults(t, name, all(impl.FineOf(d, int64(book))), slowFine(d, book), code(impl.OK))
	}
	wantNextDue(t, d)
}

// wantNextDue looks for the least Due day by day.
func wantNextDue(t *testing.T, d impl.Desk) {
	t.Helper()
	for day := range int16(impl.MaxDay + impl.LoanDays + 1) {
		due := slowBooks(d, func(c impl.Copy) bool { return c.State == impl.StLent && c.Due == day })
		if len(due) > 0 {
			wantResults(t, fmt.Sprint(d), all(impl.NextDue(d)), due[0], int64(day), code(impl.OK))
			return
		}
	}
	wantResults(t, fmt.Sprint(d), all(impl.NextDue(d)), int64(0), int64(0), code(impl.ErrNotFound))
}

func TestTells(t *testing.T) {
	for _, d := range desksInside() {
		wantTells(t, d)
	}
	r := newRandom()
	for round := range 300 {
		wantTells(t, anyDesk(r, r.IntN(1+round%60)))
	}
}

func TestTellsOfOne(t *testing.T) {
	d := manyDesk()
	wantResults(t, "loans of 1", all(impl.LoansOf(d, 1)), []int64{0, 2}, code(impl.OK))
	wantResults(t, "loans of 0", all(impl.LoansOf(d, 0)), []int64{4}, code(impl.OK))
	wantResults(t, "loans of 2", all(impl.LoansOf(d, 2)), []int64(nil), code(impl.OK))
	wantResults(t, "loans of 49", all(impl.LoansOf(d, 49)), []int64{7}, code(impl.OK))
	wantResults(t, "asked by 1", all(impl.AskedBy(d, 1)), []int64{3, 5}, code(impl.OK))
	wantResults(t, "asked by 0", all(impl.AskedBy(d, 0)), []int64{7, 8}, code(impl.OK))
	wantResults(t, "asked by 2", all(impl.AskedBy(d, 2)), []int64{0, 3, 8}, code(impl.OK))
	wantResults(t, "asked by 5", all(impl.AskedBy(d, 5)), []int64(nil), code(impl.OK))
	wantResults(t, "overdue", all(impl.OverdueBooks(d)), []int64{0, 7}, code(impl.OK))
	wantResults(t, "dummies", all(impl.Dummies(d)), []int64{0, 2, 3, 4, 5, 7, 8}, code(impl.OK))
	wantResults(t, "states", all(impl.CountStates(d)), [3]int64{2, 4, 3}, code(impl.OK))
	wantResults(t, "next", all(impl.NextDue(d)), int64(7), int64(0), code(impl.OK))
	for book, fine := range []int64{5, 0, 0, 0, 0, 0, 0, 45, 0} {
		wantResults(t, fmt.Sprint("fine ", book), all(impl.FineOf(d, int64(book))), fine, code(impl.OK))
	}
	empty := impl.Desk{Day: 3}
	wantResults(t, "no books", all(impl.LoansOf(empty, 0)), []int64(nil), code(impl.OK))
	wantResults(t, "no books", all(impl.CountStates(empty)), [3]int64{}, code(impl.OK))
	wantResults(t, "no books", all(impl.NextDue(empty)), int64(0), int64(0), code(impl.ErrNotFound))
}

// TestNextDue has several books with the least Due, and books that are held, which are due on no day.
func TestNextDue(t *testing.T) {
	type asked struct {
		d         impl.Desk
		book, day int64
	}
	for _, a := range []asked{
		{deskOf(0, lent(1, 0, 0)), 0, 0},
		{deskOf(5, onShelf, lent(1, 8, 0), lent(2, 7, 0), lent(3, 7, 0), lent(1, 7, 0)), 2, 7},
		{deskOf(5, held(1, 5), lent(1, 8, 0), held(2, 6, 1), lent(1, 8, 2)), 1, 8},
		{deskOf(5, lent(1, 9, 0), lent(1, 8, 0), lent(1, 10, 0)), 1, 8},
		{deskOf(5, lent(1, 4, 0), lent(1, 3, 0), lent(2, 3, 0)), 1, 3},
		{deskOf(10000, onShelf, lent(1, 10028, 0)), 1, 10028},
	} {
		wantResults(t, fmt.Sprint(a.d), all(impl.NextDue(a.d)), a.book, a.day, code(impl.OK))
	}
	for _, d := range []impl.Desk{{}, deskOf(5, onShelf), deskOf(5, held(1, 5), onShelf, held(2, 9, 1))} {
		wantResults(t, fmt.Sprint(d), all(impl.NextDue(d)), int64(0), int64(0), code(impl.ErrNotFound))
	}
}

// TestMayLendErrors has people and books that there are not, and each refusal beside them.
func TestMayLendErrors(t *testing.T) {
	for _, d := range append(desksInside(), manyDesk()) {
		for _, who := range farPeople() {
			wantResults(t, fmt.Sprint(d, who), all(impl.MayLend(d, who, 0)), false, code(impl.ErrRange))
			wantResults(t, fmt.Sprint(d, who), all(impl.LoansOf(d, who)), []int64(nil), code(impl.ErrRange))
			wantResults(t, fmt.Sprint(d, who), all(impl.AskedBy(d, who)), []int64(nil), code(impl.ErrRange))
			wantResults(t, fmt.Sprint(d, who), all(impl.PlaceInQueue(d, who, 0)), int64(0), code(impl.ErrRange))
			wantResults(t, fmt.Sprint(d, who), all(impl.WaitAtMost(d, who, 0)), int64(0), code(impl.ErrRange))
		}
		for _, book := range farBooks(d) {
			wantResults(t, fmt.Sprint(d, book), all(impl.MayLend(d, 1, book)), false, code(impl.ErrRange))
			wantResults(t, fmt.Sprint(d, book), all(impl.FineOf(d, book)), int64(0), code(impl.ErrRange))
			wantResults(t, fmt.Sprint(d, book), all(impl.PlaceInQueue(d, 1, book)), int64(0), code(impl.ErrRange))
			wantResults(t, fmt.Sprint(d, book), all(impl.WaitAtMost(d, 1, book)), int64(0), code(impl.ErrRange))
		}
	}
	for _, d := range append(desksInside(), manyDesk()) {
		for book := range d.Copies {
			for who := range int8(impl.MaxPeople) {
				_, _, cd := impl.ApplyAct(d, impl.Act{What: impl.AcLend, Who: who, Book: int8(book)})
				may, mayCode := impl.MayLend(d, int64(who), int64(book))
				if mayCode != impl.OK || may != (cd == impl.OK) || may != slowMayLend(d, who, book) {
					t.Errorf("%v: may %d lend %d: %t, code %d; lending has the code %d", d, who, book, may, mayCode, cd)
				}
			}
		}
	}
}

func TestQueues(t *testing.T) {
	type asked struct {
		c           impl.Copy
		who         int64
		place, wait int64
	}
	const day = 9
	// Lent: until it is due, today if it is overdue, and 35 days for each one ahead.
	for _, a := range []asked{
		{lent(1, 19, 0, 2), 2, 0, 10}, {lent(1, 37, 2, 2, 3), 3, 1, 28 + 35}, {lent(1, 10, 0, 2, 3, 0, 49), 49, 3, 1 + 105}, {lent(1, 10, 0, 2, 3, 0, 49), 0, 2, 1 + 70},
		{lent(1, 9, 0, 2), 2, 0, 0}, {lent(1, 9, 0, 2, 3), 3, 1, 35}, {lent(1, 8, 0, 2), 2, 0, 0}, {lent(1, 0, 0, 2, 3), 3, 1, 35}, {lent(1, 10028, 0, 2), 2, 0, 10019},
		// Held: taken on the last day, and lent for 28 days behind it.
		{held(1, 9, 2), 2, 0, 28}, {held(1, 16, 2), 2, 0, 7 + 28}, {held(1, 10, 2, 0), 0, 1, 1 + 28 + 35}, {held(1, 12, 2, 3, 4, 5), 5, 3, 3 + 28 + 105}, {held(0, 10028, 2), 2, 0, 10019 + 28},
	} {
		d := deskOf(day, onShelf, a.c, held(5, 9, 2, 0, 3, 49))
		name := fmt.Sprint(a.c, a.who)
		wantResults(t, name, all(impl.PlaceInQueue(d, a.who, 1)), a.place, code(impl.OK))
		wantResults(t, name, all(impl.WaitAtMost(d, a.who, 1)), a.wait, code(impl.OK))
	}
	// Who does not wait: nobody does, others do, or the book is lent to Who or held for Who.
	for _, c := range []impl.Copy{onShelf, lent(1, 9, 0), held(1, 9), lent(1, 9, 0, 2), held(1, 9, 2, 3, 4, 5), lent(0, 9, 0, 2), held(0, 9, 2, 3)} {
		d := deskOf(day, c, lent(4, 9, 0, 0, 1))
		for _, who := range []int64{0, 1} {
			wantResults(t, fmt.Sprint(c, who), all(impl.PlaceInQueue(d, who, 0)), int64(0), code(impl.ErrNotFound))
			wantResults(t, fmt.Sprint(c, who), all(impl.WaitAtMost(d, who, 0)), int64(0), code(impl.ErrNotFound))
		}
	}
}

// slowWait lets the days go by, each book being returned when it is due, and taken on the last day, until it is held for a person.
func slowWait(t *testing.T, d impl.Desk, who int8) int64 {
	t.Helper()
	for waited := int64(0); ; waited++ {
		c := d.Copies[0]
		if c.State == impl.StLent && c.Due <= d.Day {
			d = applied(t, d, []impl.Act{{What: impl.AcReturn, Who: c.Who}})
			c = d.Copies[0]
		}
		if c.State == impl.StHeld && c.Who == who {
			return waited
		}
		if c.State == impl.StHeld && c.Due == d.Day {
			d = applied(t, d, []impl.Act{{What: impl.AcLend, Who: c.Who}})
		}
		d = applied(t, d, days(1))
	}
}

// TestWaits compares what is told of a wait with what comes of it.
func TestWaits(t *testing.T) {
	r := newRandom()
	for range 400 {
		d := anyDesk(r, 1)
		if d.Day > 9000 {
			continue
		}
		for place, who := range d.Copies[0].Queue {
			wantResults(t, fmt.Sprint(d, who), all(impl.PlaceInQueue(d, int64(who), 0)), int64(place), code(impl.OK))
			wantResults(t, fmt.Sprint(d, who), all(impl.WaitAtMost(d, int64(who), 0)), slowWait(t, d, who), code(impl.OK))
		}
	}
}
