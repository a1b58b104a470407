package tests

import (
	"fmt"
	"math"
	"testing"

	"loop.example/g01326/impl"
)

// TestLendingExample is the example of chapter 6.
func TestLendingExample(t *testing.T) {
	d, cd := impl.EmptyDesk(2)
	wantDesk(t, "two books", all(d, cd), deskOf(0, onShelf, onShelf), code(impl.OK))
	refused := acts("lend 1 0, ask 2 0, lend 3 0")
	wantResults(t, "refused", all(impl.FirstRefused(d, refused)), int64(2), code(impl.ErrState), code(impl.OK))
	wantDesk(t, "refused", all(impl.ApplyActs(d, refused)), impl.Desk{}, int64(0), code(impl.ErrState))
	brought, fine, cd := impl.ApplyActs(d, acts("lend 1 0, ask 2 0, return 1 0"))
	wantDesk(t, "held", all(brought, fine, cd), deskOf(0, held(2, 7), onShelf), int64(0), code(impl.OK))
	wantDesk(t, "seven days", all(impl.ApplyActs(brought, days(7))), deskOf(7, held(2, 7), onShelf), int64(0), code(impl.OK))
	wantDesk(t, "eight days", all(impl.ApplyActs(brought, days(8))), deskOf(8, onShelf, onShelf), int64(0), code(impl.OK))
	late := applied(t, d, acts("lend 1 0, 30 days"))
	wantResults(t, "fine", all(impl.FineOf(late, 0)), int64(10), code(impl.OK))
	wantDesk(t, "late", all(impl.ApplyAct(late, act("return 1 0"))), deskOf(30, onShelf, onShelf), int64(10), code(impl.OK))
}

func TestLendingConstants(t *testing.T) {
	wantResults(t, "limits", all(impl.MaxPeople, impl.MaxQueue, impl.MaxLoans, impl.MaxRenewals, impl.LoanDays, impl.HeldDays, impl.MaxDay, impl.MaxActs), 50, 4, 3, 2, 28, 7, 10000, 200)
	wantResults(t, "states", all(impl.StShelf, impl.StLent, impl.StHeld), 0, 1, 2)
	wantResults(t, "acts", all(impl.AcLend, impl.AcReturn, impl.AcAsk, impl.AcRenew, impl.AcDrop, impl.AcDay), 0, 1, 2, 3, 4, 5)
}

func TestValidDesk(t *testing.T) {
	for _, d := range desksInside() {
		if !impl.ValidDesk(d) || !slowValidDesk(d) {
			t.Errorf("%v is valid", d)
		}
	}
	for _, d := range desksOutside() {
		if impl.ValidDesk(d) || slowValidDesk(d) {
			t.Errorf("%v is not valid", d)
		}
	}
}

// TestValidDeskNearby changes fields of valid desks, one after the other, so that many are just valid, or just not.
func TestValidDeskNearby(t *testing.T) {
	r := newRandom()
	valid := 0
	const rounds = 20000
	for range rounds {
		d := copyDesk(anyDesk(r, 1+r.IntN(6)))
		for range 1 + r.IntN(2) {
			c := &d.Copies[r.IntN(len(d.Copies))]
			switch r.IntN(7) {
			case 0:
				c.State = pickOf[int8](r, -1, 0, 1, 2, 3)
			case 1:
				c.Who = pickOf[int8](r, -1, 0, 1, 2, 49, 50)
			case 2:
				c.Due = pickOf[int16](r, -1, 0, d.Day-1, d.Day, d.Day+1, 10028, 10029)
			case 3:
				c.Renewals = pickOf[int8](r, -1, 0, 1, 2, 3)
			case 4:
				c.Queue = append(c.Queue, pickOf[int8](r, -1, 0, 1, 2, 3, 49, 50))
			case 5:
				d.Day = pickOf[int16](r, -1, 0, d.Day-1, d.Day+1, 10000, 10001)
			case 6:
				*c = lent(pickOf[int8](r, 0, 1), d.Day, 0)
			}
		}
		want := slowValidDesk(d)
		if impl.ValidDesk(d) != want {
			t.Fatalf("%v: want %t", d, want)
		}
		if want {
			valid++
		}
	}
	if valid < rounds/10 || valid > rounds-rounds/10 {
		t.Errorf("%d desks of %d are valid", valid, rounds)
	}
}

func TestSameDesk(t *testing.T) {
	many := append(desksInside(), desksOutside()...)
	for i, a := range many {
		wantResults(t, fmt.Sprint(a), all(impl.SameDesk(a, copyDesk(a))), true)
		for j, b := range many {
			// Sprint shows nil and empty slices alike, and all else differently.
			want := fmt.Sprint(a) == fmt.Sprint(b)
			if impl.SameDesk(a, b) != want {
				t.Errorf("%d and %d, %v and %v: want %t", i, j, a, b, want)
			}
		}
	}
	base := deskOf(5, onShelf, lent(1, 5, 1, 2, 3))
	changes := []func(d *impl.Desk){
		func(d *impl.Desk) { d.Day++ }, func(d *impl.Desk) { d.Copies = d.Copies[:1] }, func(d *impl.Desk) { d.Copies = append(d.Copies, onShelf) },
		func(d *impl.Desk) { d.Copies[0].Who = -1 }, func(d *impl.Desk) { d.Copies[0].Due = 1 }, func(d *impl.Desk) { d.Copies[0], d.Copies[1] = d.Copies[1], d.Copies[0] },
		func(d *impl.Desk) { d.Copies[1].State = impl.StHeld }, func(d *impl.Desk) { d.Copies[1].Who = 4 }, func(d *impl.Desk) { d.Copies[1].Due = 6 }, func(d *impl.Desk) { d.Copies[1].Renewals = 2 },
		func(d *impl.Desk) { d.Copies[1].Queue = nil }, func(d *impl.Desk) { d.Copies[1].Queue = []int8{3, 2} }, func(d *impl.Desk) { d.Copies[1].Queue = []int8{2} }, func(d *impl.Desk) { d.Copies[1].Queue = []int8{2, 3, 3} },
	}
	for i, change := range changes {
		other := copyDesk(base)
		change(&other)
		wantResults(t, fmt.Sprint("change ", i), all(impl.SameDesk(base, other), impl.SameDesk(other, base), impl.SameDesk(other, copyDesk(other))), false, false, true)
	}
	wantResults(t, "nil and empty", all(impl.SameDesk(impl.Desk{}, deskOf(0, []impl.Copy{}...)), impl.SameDesk(deskOf(0, onShelf), deskOf(0, impl.Copy{Queue: []int8{}}))), true, true)
}

func TestEmptyDesk(t *testing.T) {
	for books := range int64(impl.MaxBooks + 1) {
		wantDesk(t, fmt.Sprint(books), all(impl.EmptyDesk(books)), deskOf(0, make([]impl.Copy, books)...), code(impl.OK))
	}
	for _, books := range []int64{-1, 61, 100, 256, 65536, 1 << 32, math.MinInt64, math.MaxInt64} {
		wantResults(t, fmt.Sprint(books), all(impl.EmptyDesk(books)), impl.Desk{}, code(impl.ErrRange))
	}
}
