package tests

import (
	"fmt"
	"slices"
	"testing"

	"loop.example/g01326/impl"
)

// wantStillValid is of promise 12: behind an act that is not refused a desk is valid with as many books, nobody has more than MaxLoans, and only the book of the act has changed, or its day.
func wantStillValid(t *testing.T, before impl.Desk, a impl.Act, after impl.Desk) {
	t.Helper()
	name := fmt.Sprint(before, " behind ", a, " is ", after)
	if !slowValidDesk(after) || !impl.ValidDesk(after) || len(after.Copies) != len(before.Copies) {
		t.Fatalf("%s: not valid, or it has other books", name)
	}
	for who := range int8(impl.MaxPeople) {
		if loans := slowLoans(after, who); len(loans) > impl.MaxLoans {
			t.Fatalf("%s: %d has the loans %v", name, who, loans)
		}
	}
	day := before.Day
	if a.What == impl.AcDay {
		day++
	}
	if after.Day != day {
		t.Fatalf("%s: another day", name)
	}
	for book, c := range before.Copies {
		if a.What != impl.AcDay && book != int(a.Book) && fmt.Sprint(c) != fmt.Sprint(after.Copies[book]) {
			t.Fatalf("%s: the book %d has changed", name, book)
		}
	}
}

// wantFirstHeld is of chapter 6: a book that becomes free is held for the first one who waits for it, and for no one else.
func wantFirstHeld(t *testing.T, before, after impl.Desk) {
	t.Helper()
	for book, c := range before.Copies {
		now := after.Copies[book]
		changed := c.State != now.State || c.Who != now.Who
		if !changed || now.State == impl.StLent {
			continue
		}
		if len(c.Queue) == 0 {
			wantResults(t, "nobody waits", all(now.State), int8(impl.StShelf))
			continue
		}
		wantResults(t, fmt.Sprint(c), all(now.State, now.Who, now.Due, slices.Equal(now.Queue, c.Queue[1:])), int8(impl.StHeld), c.Queue[0], after.Day+impl.HeldDays, true)
	}
}

// TestDesksStayValid is of promise 12, for long logs on all kinds of desks.
func TestDesksStayValid(t *testing.T) {
	r := newRandom()
	full, done := 0, 0
	for round := range 60 {
		books := 1 + r.IntN(12)
		d := anyDesk(r, books)
		if round%3 == 0 {
			d, _ = impl.EmptyDesk(int64(books))
		}
		for range 400 {
			a := anyAct(r, books)
			if r.IntN(2) == 0 {
				// So many of few people that some have as many loans as are allowed, ahead of the days on which these are due.
				a = impl.Act{What: impl.AcLend, Who: int8(r.IntN(3)), Book: int8(r.IntN(books))}
			}
			after, fine, cd := impl.ApplyAct(d, a)
			want, wantedFine, wantedCode := slowApplied(d, a)
			wantDesk(t, fmt.Sprint(d, a), all(after, fine, cd), want, wantedFine, wantedCode)
			if cd != impl.OK {
				if a.What == impl.AcLend && cd == impl.ErrState && len(slowLoans(d, a.Who)) == impl.MaxLoans {
					full++
				}
				continue
			}
			done++
			wantStillValid(t, d, a, after)
			wantFirstHeld(t, d, after)
			d = after
		}
	}
	if full < 1000 || done < 3000 {
		t.Errorf("%d acts are made, and %d refused to somebody with as many loans as are allowed", done, full)
	}
}

// TestLoansAllowed is of promise 12: nobody gets one more than MaxLoans, in whichever way.
func TestLoansAllowed(t *testing.T) {
	d, _ := impl.EmptyDesk(5)
	d = applied(t, d, acts("lend 2 3, ask 1 3, lend 1 0, lend 1 1, lend 1 2, return 2 3"))
	for _, refused := range []string{"lend 1 3", "lend 1 4"} {
		wantDesk(t, refused, all(impl.ApplyAct(d, act(refused))), impl.Desk{}, int64(0), code(impl.ErrState))
		given := act(refused)
		wantResults(t, refused, all(impl.MayLend(d, 1, int64(given.Book))), false, code(impl.OK))
	}
	d = applied(t, d, acts("return 1 1, lend 1 3"))
	wantResults(t, "loans", all(impl.LoansOf(d, 1)), []int64{0, 2, 3}, code(impl.OK))
	wantDesk(t, "lend 1 1", all(impl.ApplyAct(d, act("lend 1 1"))), impl.Desk{}, int64(0), code(impl.ErrState))
	// Other people have their own loans.
	d = applied(t, d, acts("lend 0 1, lend 49 4"))
	wantResults(t, "all lent", all(impl.CountStates(d)), [3]int64{0, 5, 0}, code(impl.OK))
}

// wantParts is of promise 13: a log that is cut anywhere ends as it does in one part, with the same fines, and with the same act refused first.
func wantParts(t *testing.T, d impl.Desk, log []impl.Act) {
	t.Helper()
	whole, fines, cd := impl.ApplyActs(d, log)
	index, refused, found := impl.FirstRefused(d, log)
	want, wantedFines, wantedIndex, wantedCode := slowAppliedAll(d, log)
	wantDesk(t, fmt.Sprint(d, log), all(whole, fines, cd), want, wantedFines, wantedCode)
	if cd != impl.OK {
		wantResults(t, fmt.Sprint(d, log), all(index, refused, found), wantedIndex, wantedCode, code(impl.OK))
	} else {
		wantResults(t, fmt.Sprint(d, log), all(index, refused, found), int64(0), int64(0), code(impl.ErrNotFound))
	}
	for cut := range len(log) + 1 {
		name := fmt.Sprint("cut at ", cut, ": ", d, log)
		first, paid, cd := impl.ApplyActs(d, log[:cut])
		if found == impl.OK && int64(cut) > index {
			wantDesk(t, name, all(first, paid, cd), impl.Desk{}, int64(0), refused)
			continue
		}
		second, more, cd := impl.ApplyActs(first, log[cut:])
		if found == impl.OK {
			wantDesk(t, name, all(second, more, cd), impl.Desk{}, int64(0), refused)
			wantResults(t, name, all(impl.FirstRefused(first, log[cut:])), index-int64(cut), refused, code(impl.OK))
			continue
		}
		wantDesk(t, name, all(second, paid+more, cd), whole, fines, code(impl.OK))
	}
}

// TestLogsInParts is of promise 13.
func TestLogsInParts(t *testing.T) {
	r := newRandom()
	for round := range 60 {
		d, log := goodLog(r, 1+r.IntN(5), round)
		if _, _, cd := impl.ApplyActs(d, log); cd != impl.OK {
			t.Fatalf("%v refuses one of %v", d, log)
		}
		wantParts(t, d, log)
		if round > 0 {
			log[r.IntN(round)] = anyAct(r, 5)
		}
		wantParts(t, d, log)
	}
	d, log := goodLog(r, 20, impl.MaxActs)
	wantParts(t, d, log)
	wantParts(t, impl.Desk{}, days(impl.MaxActs))
	wantParts(t, deskOf(impl.MaxDay-2, onShelf), days(5))
}

// TestActsByAct is of promise 13: the parts may have one act each.
func TestActsByAct(t *testing.T) {
	r := newRandom()
	for range 20 {
		d, log := goodLog(r, 10, impl.MaxActs)
		now, fines := d, int64(0)
		for _, a := range log {
			after, fine, cd := impl.ApplyAct(now, a)
			if cd != impl.OK {
				t.Fatalf("%v refuses %v", now, a)
			}
			now, fines = after, fines+fine
		}
		wantDesk(t, fmt.Sprint(d, log), all(impl.ApplyActs(d, log)), now, fines, code(impl.OK))
	}
}
