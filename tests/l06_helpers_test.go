package tests

import (
	"fmt"
	"math"
	"math/rand/v2"
	"slices"
	"strings"
	"testing"

	"loop.example/g01326/impl"
)

// onShelf is a copy that stands on the shelf.
var onShelf = impl.Copy{}

// lent returns a copy that is lent.
func lent(who int8, due int16, renewals int8, queue ...int8) impl.Copy {
	return impl.Copy{State: impl.StLent, Who: who, Due: due, Renewals: renewals, Queue: queue}
}

// held returns a copy that is held.
func held(who int8, due int16, queue ...int8) impl.Copy {
	return impl.Copy{State: impl.StHeld, Who: who, Due: due, Queue: queue}
}

// deskOf returns a desk, valid or not.
func deskOf(day int16, copies ...impl.Copy) impl.Desk { return impl.Desk{Day: day, Copies: copies} }

// act returns the act with a text, which is read apart from the program.
func act(text string) impl.Act {
	kinds := map[string]int8{"lend": impl.AcLend, "return": impl.AcReturn, "ask": impl.AcAsk, "renew": impl.AcRenew, "drop": impl.AcDrop, "day": impl.AcDay}
	var word string
	var a impl.Act
	fmt.Sscan(text, &word, &a.Who, &a.Book)
	a.What = kinds[word]
	return a
}

// days returns an act for each one of so many days.
func days(count int) []impl.Act { return slices.Repeat([]impl.Act{{What: impl.AcDay}}, count) }

// acts returns the acts with texts between ", "; "28 days" are so many acts.
func acts(texts string) []impl.Act {
	var list []impl.Act
	for _, text := range strings.Split(texts, ", ") {
		count := 0
		if _, err := fmt.Sscanf(text, "%d days", &count); err == nil {
			list = append(list, days(count)...)
			continue
		}
		list = append(list, act(text))
	}
	return list
}

// applied applies acts that must not be refused.
func applied(t *testing.T, d impl.Desk, list []impl.Act) impl.Desk {
	t.Helper()
	after, _, cd := impl.ApplyActs(d, list)
	if cd != impl.OK {
		t.Fatalf("%v are refused with %d", list, cd)
	}
	return after
}

// copyDesk returns a copy that shares no memory.
func copyDesk(d impl.Desk) impl.Desk {
	d.Copies = slices.Clone(d.Copies)
	for i := range d.Copies {
		d.Copies[i].Queue = slices.Clone(d.Copies[i].Queue)
	}
	return d
}

// queues are valid queues for somebody who is none of 7, 8, 9 and 10: with nobody, one less than are allowed, and as many.
func queues() [][]int8 { return [][]int8{nil, {7}, {7, 8, 9}, {9, 7, 10, 8}} }

// desksInside are valid desks, on the bounds of what is valid too.
func desksInside() []impl.Desk {
	list := []impl.Desk{{}, {Copies: []impl.Copy{}}, {Day: impl.MaxDay - 1}, {Day: impl.MaxDay}, deskOf(0, onShelf), deskOf(0, make([]impl.Copy, impl.MaxBooks)...),
		deskOf(3, impl.Copy{Queue: []int8{}}), deskOf(9, lent(1, 9, 0), lent(1, 8, 1), lent(1, 37, 2)), deskOf(9, lent(1, 9, 0), lent(1, 8, 1), held(1, 9), held(1, 16), held(1, 9), held(1, 9)),
		deskOf(0, lent(0, 0, 0), lent(49, impl.MaxDay+impl.LoanDays, 2, 0), held(49, 0), held(0, impl.MaxDay+impl.LoanDays, 49)),
		deskOf(impl.MaxDay, lent(0, 0, 2), held(1, impl.MaxDay), held(2, impl.MaxDay+impl.HeldDays), lent(3, impl.MaxDay+impl.LoanDays, 0))}
	for _, queue := range queues() {
		list = append(list, deskOf(5, lent(1, 5, 0, queue...)), deskOf(5, held(1, 5, queue...)), deskOf(5, lent(1, 4, 2, queue...), onShelf, held(1, 12, queue...)))
	}
	full := deskOf(100)
	for i := range int8(impl.MaxBooks) {
		full.Copies = append(full.Copies, lent(i/impl.MaxLoans, 100+int16(i%impl.LoanDays), i%3, 49, 48, 47, 46))
	}
	return append(list, full)
}

// copiesOutside are not valid on the day 5.
func copiesOutside() []impl.Copy {
	list := []impl.Copy{{Who: 1}, {Who: -1}, {Due: 1}, {Due: -1}, {Due: 5}, {Renewals: 1}, {Renewals: -1}, {Queue: []int8{0}}, {Queue: []int8{1, 2}}}
	for _, state := range []int8{-1, 3, 4, math.MinInt8, math.MaxInt8} {
		list = append(list, impl.Copy{State: state}, impl.Copy{State: state, Who: 1, Due: 9})
	}
	badQueues := [][]int8{{-1}, {50}, {math.MinInt8}, {math.MaxInt8}, {2, 3, 50}, {2, -1, 3}, {2, 2}, {2, 3, 4, 2}, {2, 3, 3}, {1}, {2, 1}, {2, 3, 4, 1}, {2, 3, 4, 6, 7}, {2, 3, 4, 6, 7, 8}}
	for _, state := range []int8{impl.StLent, impl.StHeld} {
		for _, who := range []int8{-1, 50, 60, math.MinInt8, math.MaxInt8} {
			list = append(list, impl.Copy{State: state, Who: who, Due: 9})
		}
		for _, due := range []int16{-1, impl.MaxDay + impl.LoanDays + 1, math.MinInt16, math.MaxInt16} {
			list = append(list, impl.Copy{State: state, Who: 1, Due: due})
		}
		for _, queue := range badQueues {
			list = append(list, impl.Copy{State: state, Who: 1, Due: 9, Queue: queue})
		}
		for _, renewals := range []int8{-1, impl.MaxRenewals + 1, math.MinInt8, math.MaxInt8} {
			list = append(list, impl.Copy{State: state, Who: 1, Due: 9, Renewals: renewals})
		}
	}
	return append(list, impl.Copy{State: impl.StHeld, Who: 1, Due: 9, Renewals: 1}, impl.Copy{State: impl.StHeld, Who: 1, Due: 9, Renewals: 2}, held(1, 4), held(1, 0, 2))
}

// desksOutside are desks that are not valid, each one in one way only.
func desksOutside() []impl.Desk {
	list := []impl.Desk{deskOf(0, make([]impl.Copy, impl.MaxBooks+1)...), deskOf(impl.MaxDay, held(1, impl.MaxDay-1)),
		deskOf(9, lent(1, 9, 0), lent(1, 9, 0), lent(1, 9, 0), lent(1, 9, 0)), deskOf(9, lent(0, 9, 0), lent(0, 8, 1), onShelf, lent(2, 9, 0), lent(0, 10, 2), lent(49, 11, 0), lent(0, 0, 0)),
		deskOf(9, lent(49, 9, 0), lent(49, 9, 0), lent(49, 9, 0), held(49, 9), lent(49, 9, 0))}
	for _, day := range []int16{-1, impl.MaxDay + 1, math.MinInt16, math.MaxInt16} {
		list = append(list, deskOf(day), deskOf(day, onShelf), deskOf(day, lent(1, 9, 0)))
	}
	for _, c := range copiesOutside() {
		list = append(list, deskOf(5, c), deskOf(5, c, onShelf), deskOf(5, onShelf, lent(1, 5, 0), held(1, 6, 2), c))
	}
	return list
}

// anyQueue returns a valid queue of few people, without one of them.
func anyQueue(r *rand.Rand, without int8) []int8 {
	var queue []int8
	for _, i := range r.Perm(7)[:r.IntN(impl.MaxQueue+1)] {
		if who := int8(i); who != without {
			queue = append(queue, who)
		}
	}
	return queue
}

// anyDesk returns a valid desk with few people, often on a bound of the days, whose books are due about this day.
func anyDesk(r *rand.Rand, books int) impl.Desk {
	d := impl.Desk{Day: pickOf[int16](r, 0, 1, 6, 7, 27, 28, 29, 500, impl.MaxDay-1, impl.MaxDay)}
	loans := map[int8]int{}
	for range books {
		who := int8(r.IntN(7))
		due := max(0, d.Day+pickOf[int16](r, -30, -2, -1, -1, 0, 0, 1, 2, 7, 28))
		switch {
		case r.IntN(4) == 0:
			d.Copies = append(d.Copies, onShelf)
		case r.IntN(3) == 0:
			d.Copies = append(d.Copies, held(who, max(d.Day, due), anyQueue(r, who)...))
		case loans[who] < impl.MaxLoans:
			loans[who]++
			d.Copies = append(d.Copies, lent(who, due, int8(r.IntN(3)), anyQueue(r, who)...))
		default:
			d.Copies = append(d.Copies, onShelf)
		}
	}
	return d
}

// anyAct returns an act on one of so many books, of one of few people, seldom one that is none.
func anyAct(r *rand.Rand, books int) impl.Act {
	switch r.IntN(40) {
	case 0:
		return impl.Act{What: pickOf[int8](r, -1, 0, 1, 2, 3, 4, 5, 6, 127, -128), Who: pickOf[int8](r, -1, 0, 49, 50, 127), Book: pickOf[int8](r, -1, 0, int8(books), 59, 60, 127)}
	case 1, 2, 3, 4, 5, 6:
		return impl.Act{What: impl.AcDay}
	}
	return impl.Act{What: int8(r.IntN(impl.AcDay)), Who: int8(r.IntN(7)), Book: int8(r.IntN(max(1, books)))}
}

// goodLog returns a desk and so many acts that it does not refuse.
func goodLog(r *rand.Rand, books, count int) (impl.Desk, []impl.Act) {
	d := anyDesk(r, books)
	d.Day = min(d.Day, impl.MaxDay-impl.MaxActs)
	for i := range d.Copies {
		d.Copies[i].Due = min(d.Copies[i].Due, impl.MaxDay)
	}
	now := d
	var list []impl.Act
	for len(list) < count {
		a := anyAct(r, books)
		if after, _, cd := slowApplied(now, a); cd == impl.OK {
			now, list = after, append(list, a)
		}
	}
	return d, list
}

// slowValidDesk tells by the document's words whether a desk is valid.
func slowValidDesk(d impl.Desk) bool {
	if d.Day < 0 || d.Day > 10000 || len(d.Copies) > 60 {
		return false
	}
	loans := map[int8]int{}
	for _, c := range d.Copies {
		people := map[int8]bool{c.Who: true}
		for _, who := range c.Queue {
			people[who] = true
		}
		away := c.Who >= 0 && c.Who <= 49 && c.Due >= 0 && c.Due <= 10028 && len(c.Queue) <= 4 && len(people) == 1+len(c.Queue)
		for who := range people {
			away = away && who >= 0 && who <= 49
		}
		switch {
		case c.State == impl.StShelf && c.Who == 0 && c.Due == 0 && c.Renewals == 0 && len(c.Queue) == 0:
		case c.State == impl.StLent && away && c.Renewals >= 0 && c.Renewals <= 2:
			loans[c.Who]++
		case c.State == impl.StHeld && away && c.Renewals == 0 && c.Due >= d.Day:
		default:
			return false
		}
	}
	for _, count := range loans {
		if count > 3 {
			return false
		}
	}
	return true
}

// slowBooks returns the books whose copies are as asked.
func slowBooks(d impl.Desk, asked func(c impl.Copy) bool) []int64 {
	var list []int64
	for book, c := range d.Copies {
		if asked(c) {
			list = append(list, int64(book))
		}
	}
	return list
}

// slowLoans returns the books that are lent to a person.
func slowLoans(d impl.Desk, who int8) []int64 {
	return slowBooks(d, func(c impl.Copy) bool { return c.State == impl.StLent && c.Who == who })
}

// slowOverdue returns the books that are overdue.
func slowOverdue(d impl.Desk) []int64 {
	return slowBooks(d, func(c impl.Copy) bool { return c.State == impl.StLent && c.Due < d.Day })
}

// slowFine counts the days behind the one on which a book is due.
func slowFine(d impl.Desk, book int) int64 {
	fine := int64(0)
	for day := d.Copies[book].Due; d.Copies[book].State == impl.StLent && day < d.Day; day++ {
		fine += 5
	}
	return fine
}

// slowFreed returns a copy that has become free on a day.
func slowFreed(c impl.Copy, day int16) impl.Copy {
	if len(c.Queue) == 0 {
		return onShelf
	}
	return held(c.Queue[0], day+7, c.Queue[1:]...)
}

// slowMayLend tells whether a person may take a book.
func slowMayLend(d impl.Desk, who int8, book int) bool {
	c := d.Copies[book]
	loans := slowLoans(d, who)
	for _, overdue := range slowOverdue(d) {
		if slices.Contains(loans, overdue) {
			return false
		}
	}
	return len(loans) < 3 && (c.State == impl.StShelf || c.State == impl.StHeld && c.Who == who)
}

// slowNextDay begins the next day.
func slowNextDay(d impl.Desk) (impl.Desk, int64) {
	if d.Day == 10000 {
		return impl.Desk{}, impl.ErrState
	}
	after := copyDesk(d)
	after.Day++
	for book, c := range after.Copies {
		if c.State == impl.StHeld && c.Due < after.Day {
			after.Copies[book] = slowFreed(c, after.Day)
		}
	}
	return after, impl.OK
}

// slowCopyBehind makes an act, other than AcDay, on one book by the document's words; false if it is refused.
func slowCopyBehind(d impl.Desk, a impl.Act) (impl.Copy, bool) {
	c := copyDesk(d).Copies[a.Book]
	lentToWho := c.State == impl.StLent && c.Who == a.Who
	heldForWho := c.State == impl.StHeld && c.Who == a.Who
	waits := slices.Contains(c.Queue, a.Who)
	switch a.What {
	case impl.AcLend:
		return lent(a.Who, d.Day+28, 0, c.Queue...), slowMayLend(d, a.Who, int(a.Book))
	case impl.AcReturn:
		return slowFreed(c, d.Day), lentToWho
	case impl.AcAsk:
		can := c.State != impl.StShelf && !lentToWho && !heldForWho && !waits && len(c.Queue) < 4
		c.Queue = append(c.Queue, a.Who)
		return c, can
	case impl.AcRenew:
		return lent(a.Who, d.Day+28, c.Renewals+1), lentToWho && c.Due >= d.Day && len(c.Queue) == 0 && c.Renewals < 2
	}
	if heldForWho {
		return slowFreed(c, d.Day), true
	}
	c.Queue = slices.DeleteFunc(c.Queue, func(who int8) bool { return who == a.Who })
	return c, waits
}

// slowApplied makes an act on a valid desk by the document's words.
func slowApplied(d impl.Desk, a impl.Act) (impl.Desk, int64, int64) {
	if a.What == impl.AcDay && a.Who == 0 && a.Book == 0 {
		after, cd := slowNextDay(d)
		return after, 0, cd
	}
	if a.What < 0 || a.What >= impl.AcDay || a.Who < 0 || a.Who > 49 || a.Book < 0 || int(a.Book) >= len(d.Copies) {
		return impl.Desk{}, 0, impl.ErrRange
	}
	c, can := slowCopyBehind(d, a)
	if !can {
		return impl.Desk{}, 0, impl.ErrState
	}
	fine := int64(0)
	if a.What == impl.AcReturn {
		fine = slowFine(d, int(a.Book))
	}
	after := copyDesk(d)
	after.Copies[a.Book] = c
	return after, fine, impl.OK
}

// slowAppliedAll makes several acts by the document's words; it tells the index and the code of the first one that is refused.
func slowAppliedAll(d impl.Desk, list []impl.Act) (after impl.Desk, fines int64, index int64, cd int64) {
	after = d
	for i, a := range list {
		next, fine, cd := slowApplied(after, a)
		if cd != impl.OK {
			return impl.Desk{}, 0, int64(i), cd
		}
		after, fines = next, fines+fine
	}
	return after, fines, 0, impl.OK
}

// wantDesk checks a desk, what is told beside it, and that it is valid; nil and empty queues are equal.
func wantDesk(t *testing.T, name string, got []any, want impl.Desk, wanted ...any) {
	t.Helper()
	d := got[0].(impl.Desk)
	if fmt.Sprint(d) != fmt.Sprint(want) || !slowValidDesk(d) {
		t.Errorf("%s: the desk is %v, want %v", name, d, want)
	}
	wantResults(t, name, got[1:], wanted...)
}
