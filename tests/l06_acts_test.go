package tests

import (
	"fmt"
	"math"
	"testing"

	"loop.example/g01326/impl"
)

// askedAct is an act on a desk, with the desk and the fine behind it, or none of both if it is refused.
type askedAct struct {
	before  impl.Desk
	act     string
	after   impl.Desk
	fine    int64
	refused bool
}

// wantAct checks an act, and that it stands alike in a list.
func wantAct(t *testing.T, a askedAct) {
	t.Helper()
	name := fmt.Sprint(a.before, " ", a.act)
	cd, first, firstCode := code(impl.OK), code(impl.OK), code(impl.ErrNotFound)
	if a.refused {
		cd, first, firstCode = impl.ErrState, impl.ErrState, impl.OK
	}
	wantDesk(t, name, all(impl.ApplyAct(a.before, act(a.act))), a.after, a.fine, cd)
	wantDesk(t, name, all(impl.ApplyActs(a.before, acts(a.act))), a.after, a.fine, cd)
	wantResults(t, name, all(impl.FirstRefused(a.before, acts(a.act))), int64(0), first, firstCode)
	if given := act(a.act); given.What == impl.AcLend {
		wantResults(t, name, all(impl.MayLend(a.before, int64(given.Who), int64(given.Book))), !a.refused, code(impl.OK))
	}
}

// refusedAct is an act that a desk refuses with ErrState.
func refusedAct(before impl.Desk, act string) askedAct {
	return askedAct{before: before, act: act, refused: true}
}

func TestLend(t *testing.T) {
	for _, a := range []askedAct{
		{before: deskOf(0, onShelf), act: "lend 0 0", after: deskOf(0, lent(0, 28, 0))},
		{before: deskOf(3, onShelf, onShelf), act: "lend 49 1", after: deskOf(3, onShelf, lent(49, 31, 0))},
		{before: deskOf(9999, onShelf), act: "lend 1 0", after: deskOf(9999, lent(1, 10027, 0))},
		{before: deskOf(10000, onShelf), act: "lend 1 0", after: deskOf(10000, lent(1, 10028, 0))},
		// Lent to somebody, or to Who already, or held for another one.
		refusedAct(deskOf(5, lent(2, 9, 0)), "lend 1 0"), refusedAct(deskOf(5, lent(1, 9, 0)), "lend 1 0"), refusedAct(deskOf(5, held(2, 9)), "lend 1 0"), refusedAct(deskOf(5, held(2, 9, 1)), "lend 1 0"),
		refusedAct(deskOf(5, lent(0, 9, 0)), "lend 0 0"), refusedAct(deskOf(5, lent(2, 9, 0, 1)), "lend 1 0"),
		// Held for Who; the queue stays.
		{before: deskOf(5, held(1, 5)), act: "lend 1 0", after: deskOf(5, lent(1, 33, 0))},
		{before: deskOf(5, onShelf, held(1, 9, 4, 3)), act: "lend 1 1", after: deskOf(5, onShelf, lent(1, 33, 0, 4, 3))},
		{before: deskOf(5, held(0, 9, 1, 2, 3, 4)), act: "lend 0 0", after: deskOf(5, lent(0, 33, 0, 1, 2, 3, 4))},
		// MaxLoans - 1 loans, and MaxLoans; those of others do not count, nor what is held for Who, nor that Who waits.
		{before: deskOf(5, lent(1, 9, 0), lent(1, 8, 2), onShelf), act: "lend 1 2", after: deskOf(5, lent(1, 9, 0), lent(1, 8, 2), lent(1, 33, 0))},
		{before: deskOf(5, lent(1, 9, 0), lent(1, 8, 2), held(1, 5, 2)), act: "lend 1 2", after: deskOf(5, lent(1, 9, 0), lent(1, 8, 2), lent(1, 33, 0, 2))},
		refusedAct(deskOf(5, lent(1, 9, 0), lent(1, 8, 2), lent(1, 5, 0), onShelf), "lend 1 3"), refusedAct(deskOf(5, held(1, 9), lent(1, 9, 0), lent(1, 8, 2), lent(1, 5, 0)), "lend 1 0"),
		{before: deskOf(5, lent(2, 9, 0), lent(2, 8, 2), lent(2, 5, 0), onShelf), act: "lend 1 3", after: deskOf(5, lent(2, 9, 0), lent(2, 8, 2), lent(2, 5, 0), lent(1, 33, 0))},
		{before: deskOf(5, held(1, 9), held(1, 8), held(1, 5), onShelf), act: "lend 1 3", after: deskOf(5, held(1, 9), held(1, 8), held(1, 5), lent(1, 33, 0))},
		{before: deskOf(5, lent(2, 9, 0, 1), held(2, 8, 1), lent(3, 5, 0, 1), onShelf), act: "lend 1 3", after: deskOf(5, lent(2, 9, 0, 1), held(2, 8, 1), lent(3, 5, 0, 1), lent(1, 33, 0))},
		// One that is overdue by a day, and one that is due today; one of another person.
		refusedAct(deskOf(5, lent(1, 4, 0), onShelf), "lend 1 1"), refusedAct(deskOf(5, held(1, 9), lent(1, 9, 0), lent(1, 4, 0)), "lend 1 0"),
		{before: deskOf(5, lent(1, 5, 0), onShelf), act: "lend 1 1", after: deskOf(5, lent(1, 5, 0), lent(1, 33, 0))},
		{before: deskOf(5, lent(2, 0, 0), onShelf), act: "lend 1 1", after: deskOf(5, lent(2, 0, 0), lent(1, 33, 0))},
		{before: deskOf(5, lent(2, 4, 0, 1), onShelf), act: "lend 1 1", after: deskOf(5, lent(2, 4, 0, 1), lent(1, 33, 0))},
	} {
		wantAct(t, a)
	}
}

func TestReturn(t *testing.T) {
	for _, a := range []askedAct{
		// Long ahead, a day ahead, on the day itself, a day later, and much later.
		{before: deskOf(5, lent(1, 33, 0)), act: "return 1 0", after: deskOf(5, onShelf)},
		{before: deskOf(5, lent(1, 6, 1)), act: "return 1 0", after: deskOf(5, onShelf)},
		{before: deskOf(5, lent(1, 5, 2)), act: "return 1 0", after: deskOf(5, onShelf)},
		{before: deskOf(5, lent(1, 4, 0)), act: "return 1 0", after: deskOf(5, onShelf), fine: 5},
		{before: deskOf(5, lent(1, 3, 0)), act: "return 1 0", after: deskOf(5, onShelf), fine: 10},
		{before: deskOf(10000, lent(0, 0, 0)), act: "return 0 0", after: deskOf(10000, onShelf), fine: 50000},
		{before: deskOf(0, onShelf, lent(1, 28, 0), lent(1, 0, 0)), act: "return 1 1", after: deskOf(0, onShelf, onShelf, lent(1, 0, 0))},
		// One waits, and several.
		{before: deskOf(5, lent(1, 5, 2, 0)), act: "return 1 0", after: deskOf(5, held(0, 12))},
		{before: deskOf(5, lent(1, 4, 2, 3, 2)), act: "return 1 0", after: deskOf(5, held(3, 12, 2)), fine: 5},
		{before: deskOf(10000, lent(1, 9999, 2, 9, 0, 49, 2)), act: "return 1 0", after: deskOf(10000, held(9, 10007, 0, 49, 2)), fine: 5},
		// Not lent to Who.
		refusedAct(deskOf(5, onShelf), "return 1 0"), refusedAct(deskOf(5, onShelf), "return 0 0"), refusedAct(deskOf(5, lent(2, 4, 0)), "return 1 0"), refusedAct(deskOf(5, lent(2, 4, 0, 1)), "return 1 0"),
		refusedAct(deskOf(5, held(1, 9)), "return 1 0"), refusedAct(deskOf(5, held(2, 9, 1)), "return 1 0"), refusedAct(deskOf(5, lent(1, 9, 0), onShelf), "return 1 1"),
	} {
		wantAct(t, a)
	}
}

func TestAsk(t *testing.T) {
	for _, a := range []askedAct{
		// Nobody waits, MaxQueue - 1 people, and MaxQueue.
		{before: deskOf(5, lent(1, 4, 2)), act: "ask 0 0", after: deskOf(5, lent(1, 4, 2, 0))},
		{before: deskOf(5, held(1, 9)), act: "ask 49 0", after: deskOf(5, held(1, 9, 49))},
		{before: deskOf(5, lent(1, 9, 0, 4, 3, 5)), act: "ask 2 0", after: deskOf(5, lent(1, 9, 0, 4, 3, 5, 2))},
		{before: deskOf(5, onShelf, held(1, 9, 4, 3, 5)), act: "ask 2 1", after: deskOf(5, onShelf, held(1, 9, 4, 3, 5, 2))},
		refusedAct(deskOf(5, lent(1, 9, 0, 4, 3, 5, 6)), "ask 2 0"), refusedAct(deskOf(5, held(1, 9, 4, 3, 5, 6)), "ask 2 0"),
		// On the shelf, also for the person whose number a copy on the shelf has.
		refusedAct(deskOf(5, onShelf), "ask 1 0"), refusedAct(deskOf(5, onShelf), "ask 0 0"),
		// Lent to Who, held for Who, in the queue already, as the first and as the last one.
		refusedAct(deskOf(5, lent(1, 9, 0)), "ask 1 0"), refusedAct(deskOf(5, held(1, 9)), "ask 1 0"), refusedAct(deskOf(5, lent(1, 9, 0, 2)), "ask 1 0"), refusedAct(deskOf(5, held(0, 9, 2)), "ask 0 0"),
		refusedAct(deskOf(5, lent(1, 9, 0, 2)), "ask 2 0"), refusedAct(deskOf(5, held(1, 9, 2, 3)), "ask 2 0"), refusedAct(deskOf(5, held(1, 9, 2, 0)), "ask 0 0"), refusedAct(deskOf(5, lent(1, 9, 0, 2, 3, 4)), "ask 4 0"),
		// Nothing else is in the way: other queues, many loans, or one that is overdue.
		{before: deskOf(9, lent(1, 8, 0), lent(1, 9, 0), lent(1, 9, 0), lent(2, 9, 1, 4)), act: "ask 1 3", after: deskOf(9, lent(1, 8, 0), lent(1, 9, 0), lent(1, 9, 0), lent(2, 9, 1, 4, 1))},
		{before: deskOf(9, lent(2, 8, 0, 1), held(3, 9, 1), held(1, 9), lent(2, 9, 1)), act: "ask 1 3", after: deskOf(9, lent(2, 8, 0, 1), held(3, 9, 1), held(1, 9), lent(2, 9, 1, 1))},
	} {
		wantAct(t, a)
	}
}

func TestRenew(t *testing.T) {
	for _, a := range []askedAct{
		// As often as is allowed, and once more.
		{before: deskOf(5, lent(1, 9, 0)), act: "renew 1 0", after: deskOf(5, lent(1, 33, 1))},
		{before: deskOf(5, lent(1, 9, 1)), act: "renew 1 0", after: deskOf(5, lent(1, 33, 2))},
		refusedAct(deskOf(5, lent(1, 9, 2)), "renew 1 0"),
		// It is lent from today on, even if this is less than before.
		{before: deskOf(5, lent(0, 33, 0)), act: "renew 0 0", after: deskOf(5, lent(0, 33, 1))},
		{before: deskOf(5, lent(0, 90, 0)), act: "renew 0 0", after: deskOf(5, lent(0, 33, 1))},
		{before: deskOf(10000, onShelf, lent(49, 10000, 1)), act: "renew 49 1", after: deskOf(10000, onShelf, lent(49, 10028, 2))},
		// Due today, overdue by a day.
		{before: deskOf(5, lent(1, 5, 0)), act: "renew 1 0", after: deskOf(5, lent(1, 33, 1))},
		refusedAct(deskOf(5, lent(1, 4, 0)), "renew 1 0"),
		// Another one is overdue; Who has MaxLoans.
		{before: deskOf(5, lent(1, 4, 0), lent(1, 5, 0), lent(1, 9, 1)), act: "renew 1 2", after: deskOf(5, lent(1, 4, 0), lent(1, 5, 0), lent(1, 33, 2))},
		// Somebody waits for it, or only for another one.
		refusedAct(deskOf(5, lent(1, 9, 0, 2)), "renew 1 0"), refusedAct(deskOf(5, lent(1, 9, 0, 2, 3, 4, 5)), "renew 1 0"),
		{before: deskOf(5, lent(1, 9, 0), lent(1, 9, 0, 2)), act: "renew 1 0", after: deskOf(5, lent(1, 33, 1), lent(1, 9, 0, 2))},
		// Not lent to Who.
		refusedAct(deskOf(5, onShelf), "renew 1 0"), refusedAct(deskOf(0, onShelf), "renew 0 0"), refusedAct(deskOf(5, held(1, 9)), "renew 1 0"), refusedAct(deskOf(5, lent(2, 9, 0)), "renew 1 0"), refusedAct(deskOf(5, lent(1, 9, 0), lent(2, 9, 0)), "renew 1 1"),
	} {
		wantAct(t, a)
	}
}

func TestDrop(t *testing.T) {
	for _, a := range []askedAct{
		// Who waits: alone, as the first one, between others, as the last one; the others keep their order.
		{before: deskOf(5, lent(1, 9, 2, 2)), act: "drop 2 0", after: deskOf(5, lent(1, 9, 2))},
		{before: deskOf(5, held(1, 9, 2)), act: "drop 2 0", after: deskOf(5, held(1, 9))},
		{before: deskOf(5, lent(1, 4, 0, 2, 0, 4, 3)), act: "drop 2 0", after: deskOf(5, lent(1, 4, 0, 0, 4, 3))},
		{before: deskOf(5, held(1, 5, 2, 0, 4, 3)), act: "drop 0 0", after: deskOf(5, held(1, 5, 2, 4, 3))},
		{before: deskOf(5, onShelf, lent(1, 9, 0, 2, 0, 4, 3)), act: "drop 3 1", after: deskOf(5, onShelf, lent(1, 9, 0, 2, 0, 4))},
		// Who gives up what is held: nobody waits, one does, and several do.
		{before: deskOf(5, held(1, 9)), act: "drop 1 0", after: deskOf(5, onShelf)},
		{before: deskOf(5, held(0, 9, 2)), act: "drop 0 0", after: deskOf(5, held(2, 12))},
		{before: deskOf(10000, lent(1, 9, 0), held(1, 10000, 3, 2, 49, 0)), act: "drop 1 1", after: deskOf(10000, lent(1, 9, 0), held(3, 10007, 2, 49, 0))},
		// Neither.
		refusedAct(deskOf(5, onShelf), "drop 1 0"), refusedAct(deskOf(5, onShelf), "drop 0 0"), refusedAct(deskOf(5, lent(1, 9, 0)), "drop 1 0"), refusedAct(deskOf(5, lent(1, 9, 0, 2)), "drop 1 0"),
		refusedAct(deskOf(5, lent(1, 9, 0, 2)), "drop 3 0"), refusedAct(deskOf(5, held(1, 9, 2)), "drop 3 0"), refusedAct(deskOf(5, lent(1, 9, 0), lent(1, 9, 0, 3)), "drop 3 0"), refusedAct(deskOf(5, lent(0, 9, 0)), "drop 0 0"),
	} {
		wantAct(t, a)
	}
}

func TestDay(t *testing.T) {
	for _, a := range []askedAct{
		{before: impl.Desk{}, act: "day", after: deskOf(1)},
		{before: deskOf(9998), act: "day", after: deskOf(9999)},
		{before: deskOf(9999, onShelf, lent(1, 9999, 0)), act: "day", after: deskOf(10000, onShelf, lent(1, 9999, 0))},
		refusedAct(deskOf(10000), "day"), refusedAct(deskOf(10000, onShelf, held(1, 10000)), "day"), refusedAct(deskOf(10000, held(1, 10007, 2)), "day"),
		// What is lent stays so, whoever waits for it.
		{before: deskOf(5, lent(1, 5, 1, 2), lent(1, 0, 0), lent(1, 6, 2)), act: "day", after: deskOf(6, lent(1, 5, 1, 2), lent(1, 0, 0), lent(1, 6, 2))},
		// What is held for this day is held still; Due of the last one passes with the day, while nobody waits, and while somebody does.
		{before: deskOf(5, held(1, 6)), act: "day", after: deskOf(6, held(1, 6))},
		{before: deskOf(5, held(1, 12, 2)), act: "day", after: deskOf(6, held(1, 12, 2))},
		{before: deskOf(5, held(1, 5)), act: "day", after: deskOf(6, onShelf)},
		{before: deskOf(5, held(1, 5, 2)), act: "day", after: deskOf(6, held(2, 13))},
		{before: deskOf(9999, held(1, 9999, 2, 0, 4, 3)), act: "day", after: deskOf(10000, held(2, 10007, 0, 4, 3))},
		// Several on one day, between others.
		{before: deskOf(5, held(1, 5, 2, 3), held(2, 5), held(3, 6, 2), held(2, 5, 1), lent(1, 5, 0), onShelf, held(4, 5, 2)), act: "day",
			after: deskOf(6, held(2, 13, 3), onShelf, held(3, 6, 2), held(1, 13), lent(1, 5, 0), onShelf, held(2, 13))},
	} {
		wantAct(t, a)
	}
	full := deskOf(5)
	wanted := deskOf(6)
	for range impl.MaxBooks {
		full.Copies = append(full.Copies, held(1, 5, 2, 3, 4, 5))
		wanted.Copies = append(wanted.Copies, held(2, 13, 3, 4, 5))
	}
	wantAct(t, askedAct{before: full, act: "day", after: wanted})
}

// TestActsThatAreNone has ErrRange for acts that a desk cannot have, also where ErrState is due as well.
func TestActsThatAreNone(t *testing.T) {
	wantNone := func(d impl.Desk, a impl.Act) {
		t.Helper()
		name := fmt.Sprint(d, " ", a)
		wantDesk(t, name, all(impl.ApplyAct(d, a)), impl.Desk{}, int64(0), code(impl.ErrRange))
		wantResults(t, name, all(impl.FirstRefused(d, []impl.Act{a})), int64(0), code(impl.ErrRange), code(impl.OK))
	}
	for _, d := range desksInside() {
		for _, what := range []int8{-1, 6, 7, 60, math.MinInt8, math.MaxInt8} {
			wantNone(d, impl.Act{What: what})
			wantNone(d, impl.Act{What: what, Who: 1, Book: 1})
		}
		for _, other := range []int8{1, -1, 49, 60, math.MinInt8, math.MaxInt8} {
			wantNone(d, impl.Act{What: impl.AcDay, Who: other})
			wantNone(d, impl.Act{What: impl.AcDay, Book: other})
			wantNone(d, impl.Act{What: impl.AcDay, Who: other, Book: other})
		}
		for what := range int8(impl.AcDay) {
			for _, who := range []int8{-1, 50, 51, math.MinInt8, math.MaxInt8} {
				wantNone(d, impl.Act{What: what, Who: who})
			}
			for _, book := range []int8{-1, int8(len(d.Copies)), 60, 61, math.MinInt8, math.MaxInt8} {
				wantNone(d, impl.Act{What: what, Who: 1, Book: book})
			}
		}
	}
}

// TestApplyActs has lists of no acts, of as many as are allowed, and of one more, and the order of the errors.
func TestApplyActs(t *testing.T) {
	for _, d := range desksInside() {
		wantDesk(t, "no acts", all(impl.ApplyActs(d, nil)), d, int64(0), code(impl.OK))
		wantResults(t, "no acts", all(impl.FirstRefused(d, []impl.Act{})), int64(0), int64(0), code(impl.ErrNotFound))
	}
	one := deskOf(0, onShelf)
	bad := deskOf(-1, onShelf)
	wantDesk(t, "most", all(impl.ApplyActs(one, days(200))), deskOf(200, onShelf), int64(0), code(impl.OK))
	wantResults(t, "most", all(impl.FirstRefused(one, days(200))), int64(0), int64(0), code(impl.ErrNotFound))
	wantDesk(t, "the last one", all(impl.ApplyActs(one, acts("199 days, ask 1 0"))), impl.Desk{}, int64(0), code(impl.ErrState))
	wantResults(t, "the last one", all(impl.FirstRefused(one, acts("199 days, ask 1 0"))), int64(199), code(impl.ErrState), code(impl.OK))
	type asked struct {
		d     impl.Desk
		list  []impl.Act
		index int64
		cd    int64
	}
	for _, a := range []asked{
		// The first act that is refused, whatever comes behind it.
		{one, acts("ask 1 0, lend 1 9"), 0, impl.ErrState},
		{one, acts("lend 1 9, ask 1 0"), 0, impl.ErrRange},
		{one, acts("lend 1 0, lend 1 0, lend 50 0, 3 days"), 1, impl.ErrState},
		{one, acts("lend 1 0, lend 50 0, lend 1 0"), 1, impl.ErrRange},
		{one, acts("28 days, lend 1 0, 29 days, renew 1 0"), 58, impl.ErrState},
		{deskOf(9998), acts("4 days"), 2, impl.ErrState},
		{deskOf(0), acts("lend 1 0"), 0, impl.ErrRange},
		{one, []impl.Act{{}, {What: impl.AcDay}, {What: impl.AcDay, Book: 1}}, 2, impl.ErrRange},
	} {
		name := fmt.Sprint(a.d, a.list)
		wantDesk(t, name, all(impl.ApplyActs(a.d, a.list)), impl.Desk{}, int64(0), a.cd)
		wantResults(t, name, all(impl.FirstRefused(a.d, a.list)), a.index, a.cd, code(impl.OK))
	}
	for _, list := range [][]impl.Act{days(201), acts("lend 1 9, 200 days"), acts("ask 1 0, 200 days"), days(1000)} {
		wantDesk(t, "one more", all(impl.ApplyActs(one, list)), impl.Desk{}, int64(0), code(impl.ErrLimit))
		wantResults(t, "one more", all(impl.FirstRefused(one, list)), int64(0), int64(0), code(impl.ErrLimit))
		wantDesk(t, "one more", all(impl.ApplyActs(bad, list)), impl.Desk{}, int64(0), code(impl.ErrInvalid))
		wantResults(t, "one more", all(impl.FirstRefused(bad, list)), int64(0), int64(0), code(impl.ErrInvalid))
	}
}

// TestFines has the sum of several fines, and no fine of acts that have none.
func TestFines(t *testing.T) {
	d := deskOf(5, lent(1, 4, 0, 3), lent(2, 1, 0), lent(1, 5, 0))
	wantDesk(t, "three", all(impl.ApplyActs(d, acts("return 1 0, return 2 1, return 1 2, drop 3 0"))), deskOf(5, onShelf, onShelf, onShelf), int64(25), code(impl.OK))
	wantDesk(t, "later", all(impl.ApplyActs(d, acts("return 1 0, day, return 1 2, day, return 2 1"))), deskOf(7, held(3, 12), onShelf, onShelf), int64(40), code(impl.OK))
	wantDesk(t, "none", all(impl.ApplyActs(d, acts("9 days"))), deskOf(14, lent(1, 4, 0, 3), lent(2, 1, 0), lent(1, 5, 0)), int64(0), code(impl.OK))
	// The same book is late again.
	wantDesk(t, "again", all(impl.ApplyActs(deskOf(0, onShelf), acts("lend 1 0, 29 days, return 1 0, lend 1 0, 30 days, return 1 0"))), deskOf(59, onShelf), int64(15), code(impl.OK))
	full := deskOf(10000)
	for i := range int8(impl.MaxBooks) {
		full.Copies = append(full.Copies, lent(i/3, 0, 0))
	}
	var list []impl.Act
	for i := range int8(impl.MaxBooks) {
		list = append(list, impl.Act{What: impl.AcReturn, Who: i / 3, Book: i})
	}
	wantDesk(t, "the most", all(impl.ApplyActs(full, list)), deskOf(10000, make([]impl.Copy, impl.MaxBooks)...), int64(60*50000), code(impl.OK))
}

// TestLives has whole lives of books.
func TestLives(t *testing.T) {
	one := deskOf(0, onShelf)
	type asked struct {
		list  string
		after impl.Desk
	}
	for _, a := range []asked{
		{"lend 1 0, 28 days, renew 1 0, 28 days, renew 1 0, 28 days", deskOf(84, lent(1, 84, 2))},
		{"lend 1 0, ask 2 0, ask 3 0, 20 days, return 1 0, 3 days, lend 2 0", deskOf(23, lent(2, 51, 0, 3))},
		{"lend 1 0, ask 2 0, ask 3 0, return 1 0, 8 days", deskOf(8, held(3, 15))},
		{"lend 1 0, ask 2 0, ask 3 0, return 1 0, 15 days", deskOf(15, held(3, 15))},
		{"lend 1 0, ask 2 0, ask 3 0, return 1 0, 16 days", deskOf(16, onShelf)},
		{"lend 1 0, ask 2 0, return 1 0, ask 1 0, ask 3 0, drop 2 0, ask 2 0", deskOf(0, held(1, 7, 3, 2))},
		{"lend 1 0, ask 2 0, return 1 0, lend 2 0, renew 2 0, renew 2 0, return 2 0, lend 3 0", deskOf(0, lent(3, 28, 0))},
		{"lend 1 0, ask 2 0, drop 2 0, renew 1 0, return 1 0", deskOf(0, onShelf)},
		{"lend 1 0, ask 2 0, ask 3 0, ask 4 0, ask 5 0, return 1 0, ask 1 0", deskOf(0, held(2, 7, 3, 4, 5, 1))},
	} {
		wantDesk(t, a.list, all(impl.ApplyActs(one, acts(a.list))), a.after, int64(0), code(impl.OK))
	}
	for _, list := range []string{"lend 1 0, renew 1 0, renew 1 0, renew 1 0", "lend 1 0, ask 2 0, return 1 0, lend 3 0", "lend 1 0, ask 2 0, return 1 0, lend 1 0", "lend 1 0, ask 2 0, ask 3 0, ask 4 0, ask 5 0, ask 6 0", "lend 1 0, ask 2 0, return 1 0, 8 days, drop 2 0", "29 days, lend 1 0, 29 days, renew 1 0"} {
		whole := acts(list)
		last := len(whole) - 1
		applied(t, one, whole[:last])
		wantResults(t, list, all(impl.FirstRefused(one, whole)), int64(last), code(impl.ErrState), code(impl.OK))
	}
}

// TestActsOfAnyKind compares acts on all kinds of desks with the document's words.
func TestActsOfAnyKind(t *testing.T) {
	r := newRandom()
	counts := map[string]int{}
	for round := range 30000 {
		books := r.IntN(7)
		if round%50 == 0 {
			books = impl.MaxBooks
		}
		d, a := anyDesk(r, books), anyAct(r, books)
		after, fine, cd := slowApplied(d, a)
		wantDesk(t, fmt.Sprint(d, a), all(impl.ApplyAct(d, a)), after, fine, cd)
		counts[fmt.Sprint(min(max(a.What, -1), 6), " ", impl.CodeName(cd))]++
		if who, book := int8(r.IntN(8)), r.IntN(books+1); book < books {
			wantResults(t, fmt.Sprint(d, who, book), all(impl.MayLend(d, int64(who), int64(book))), slowMayLend(d, who, book), code(impl.OK))
		}
	}
	for what := range impl.AcDay + 1 {
		for _, cd := range []int64{impl.OK, impl.ErrState, impl.ErrRange} {
			if counts[fmt.Sprint(what, " ", impl.CodeName(cd))] < 10 {
				t.Errorf("the act %d has the code %d too seldom: %v", what, cd, counts)
			}
		}
	}
}
