package tests

import (
	"fmt"
	"math"
	"regexp"
	"slices"
	"strconv"
	"strings"
	"testing"

	"loop.example/g01326/impl"
)

var actShape = regexp.MustCompile(`^(day|(lend|return|ask|renew|drop) (0|[1-4]?[1-9]|[1-4]0) (0|[1-5]?[1-9]|[1-5]0))$`)

// isActsText tells by a regular expression whether a text is one of acts.
func isActsText(text string) bool {
	lines := strings.Split(text, "\n")
	last := len(lines) - 1
	return lines[last] == "" && last <= 200 && !slices.ContainsFunc(lines[:last], func(line string) bool { return !actShape.MatchString(line) })
}

// wantActText checks all about one text of an act: it is read if it is one, and then gives the same text again.
func wantActText(t *testing.T, text string) {
	t.Helper()
	a, cd := impl.ReadAct(text)
	if !actShape.MatchString(text) {
		wantResults(t, "act "+strconv.Quote(text), all(a, cd), impl.Act{}, code(impl.ErrSyntax))
		return
	}
	if cd != impl.OK || a != act(text) || impl.ActText(a) != text {
		t.Errorf("%q is read as %v, code %d", text, a, cd)
	}
}

// wantActsText does so for a text of several acts.
func wantActsText(t *testing.T, text string) {
	t.Helper()
	list, cd := impl.ReadActs(text)
	if !isActsText(text) {
		wantResults(t, "acts "+strconv.Quote(text), all(list, cd), []impl.Act(nil), code(impl.ErrSyntax))
		return
	}
	if cd != impl.OK || len(list) != strings.Count(text, "\n") || impl.ActsText(list) != text {
		t.Errorf("%q is read as %v, code %d", text, list, cd)
	}
}

func TestActText(t *testing.T) {
	words := []string{"lend", "return", "ask", "renew", "drop"}
	for what, word := range words {
		for who := range int8(impl.MaxPeople) {
			for book := range int8(impl.MaxBooks) {
				a := impl.Act{What: int8(what), Who: who, Book: book}
				text := fmt.Sprintf("%s %d %d", word, who, book)
				wantResults(t, text, all(impl.ActText(a)), text)
				wantResults(t, text, all(impl.ReadAct(text)), a, code(impl.OK))
			}
		}
	}
	wantResults(t, "day", all(impl.ActText(impl.Act{What: impl.AcDay})), "day")
	wantResults(t, "day", all(impl.ReadAct("day")), impl.Act{What: impl.AcDay}, code(impl.OK))
}

// actsOutside are acts that are none on any desk.
func actsOutside() []impl.Act {
	list := []impl.Act{{What: impl.AcDay, Who: 1}, {What: impl.AcDay, Book: 1}, {What: impl.AcDay, Who: -1}, {What: impl.AcDay, Book: -1}, {What: impl.AcDay, Who: 2, Book: 3}}
	for _, what := range []int8{-1, 6, 7, math.MinInt8, math.MaxInt8} {
		list = append(list, impl.Act{What: what}, impl.Act{What: what, Who: 1, Book: 1})
	}
	for what := range int8(impl.AcDay) {
		for _, who := range []int8{-1, 50, 59, math.MinInt8, math.MaxInt8} {
			list = append(list, impl.Act{What: what, Who: who})
		}
		for _, book := range []int8{-1, 60, 61, math.MinInt8, math.MaxInt8} {
			list = append(list, impl.Act{What: what, Book: book})
		}
	}
	return list
}

func TestActsText(t *testing.T) {
	wantResults(t, "no acts", all(impl.ActsText(nil), impl.ActsText([]impl.Act{})), "", "")
	wantResults(t, "no acts", all(impl.ReadActs("")), []impl.Act(nil), code(impl.OK))
	const text = "lend 1 0\nask 2 0\nday\nreturn 1 0\nrenew 49 59\ndrop 0 10\nday\n"
	list := acts("lend 1 0, ask 2 0, day, return 1 0, renew 49 59, drop 0 10, day")
	wantResults(t, "acts", all(impl.ActsText(list)), text)
	wantResults(t, "acts", all(impl.ReadActs(text)), list, code(impl.OK))
	for _, bad := range actsOutside() {
		wantResults(t, fmt.Sprint(bad), all(impl.ActText(bad), impl.ActsText([]impl.Act{bad}), impl.ActsText([]impl.Act{{}, bad}), impl.ActsText([]impl.Act{bad, {}})), "", "", "", "")
	}
	r := newRandom()
	for count := range impl.MaxActs + 1 {
		var list []impl.Act
		for range count {
			list = append(list, pickOf(r, impl.Act{What: impl.AcDay}, impl.Act{What: int8(r.IntN(impl.AcDay)), Who: int8(r.IntN(impl.MaxPeople)), Book: int8(r.IntN(impl.MaxBooks))}))
		}
		wantResults(t, "read again", all(impl.ReadActs(impl.ActsText(list))), list, code(impl.OK))
	}
	wantResults(t, "most", all(impl.ActsText(days(impl.MaxActs))), strings.Repeat("day\n", impl.MaxActs))
	wantResults(t, "one more", all(impl.ActsText(days(impl.MaxActs+1))), "")
	wantResults(t, "one more", all(impl.ActsText(slices.Repeat([]impl.Act{{}}, impl.MaxActs+1))), "")
}

func TestActTextsNearby(t *testing.T) {
	for _, text := range []string{"day", "lend 1 0", "return 49 59", "ask 10 20", "renew 7 3", "drop 0 9"} {
		wantNearby(t, text, wantActText)
		wantNearby(t, text+"\n", wantActsText)
	}
	wantNearby(t, "lend 1 0\nday\ndrop 12 34\n", wantActsText)
	wantNearby(t, "day\nday\n", wantActsText)
}

func TestActTextsThatAreNone(t *testing.T) {
	for _, text := range []string{"", " ", "\n", "day ", " day", "day\n", "\nday", "day 0", "day 0 0", "days", "da", "Day", "DAY", "lend", "lend ", "lend 1", "lend 1 ", " lend 1 0", "lend  1 0", "lend 1  0", "lend 1 0 ", "lend 1 0 0", "lend 1 0\n", "\nlend 1 0", "lend\n1 0", "lend 1\n0", "lend\t1 0", "lend1 0", "lend 10", "lend 1,0", "lend, 1 0",
		"Lend 1 0", "LEND 1 0", "lent 1 0", "len 1 0", "lends 1 0", "lend1 1 0", "give 1 0", "1 0", "0 1 0", "return", "ask 1", "renew 1", "drop 1", "returned 1 0", "asked 1 0",
		"lend 01 0", "lend 1 00", "lend 00 0", "lend 1 01", "lend +1 0", "lend 1 +0", "lend -1 0", "lend 1 -1", "lend -0 0", "lend 1 -0", "lend 50 0", "lend 1 60", "lend 49 60", "lend 50 59", "lend 100 0", "lend 1 100", "lend 256 0", "lend 1 256", "lend 257 0", "lend 4294967297 0", "lend 1 18446744073709551616", "lend 0x1 0", "lend 1 0.0", "lend 1e0 0", "lend a 0", "lend 1 a", "lend \u0661 0", "day\x00", "lend 1 0\x00", "\xff"} {
		if actShape.MatchString(text) {
			t.Errorf("%q is one, after all", text)
		}
		wantActText(t, text)
	}
}

func TestActsTextsThatAreNone(t *testing.T) {
	most := strings.Repeat("day\n", impl.MaxActs)
	for _, text := range []string{" ", "\n", "day", "day\n\n", "\nday\n", "day\n\nday\n", "day\nday", "day day\n", "day, day\n", "dayday\n", "day \n", " day\n", "day\n ", "day\n day\n", "day\r\n", "day\nlend 1\n", "lend 1 0", "lend 1 0\nask 2 0", "lend 1 0 ask 2 0\n", "lend 1 0\n\nask 2 0\n", "lend 1 0\nask 2 60\n", "lend 1 0\nask 50 0\n", "lend 1 0\nask 02 0\n", "lend 1 0\nask 2 0\nx", "lend 1 0\nask 2 0\n\x00",
		most + "day\n", most + "day", most + "\n", most + " ", most + "x", "day\n" + most, "lend 1 0\n" + most} {
		if isActsText(text) {
			t.Errorf("%q is one, after all", text)
		}
		wantActsText(t, text)
	}
	for _, text := range []string{"", "day\n", most, most[4:] + "lend 1 0\n"} {
		if !isActsText(text) {
			t.Errorf("%q is none, after all", text)
		}
		wantActsText(t, text)
	}
}
