package tests

import (
	"fmt"
	"math"
	"regexp"
	"slices"
	"strconv"
	"strings"
	"testing"

	"loop.example/g01326/impl"
)

var (
	caseShape   = regexp.MustCompile(`^[1-9][0-9]* [1-9][0-9]*( [1-9][0-9]*){1,12}$`)
	layoutShape = regexp.MustCompile(`^(0|[1-9][0-9]*)(,(0|[1-9][0-9]*)){0,11}$`)
)

// insideAll reports whether all numbers of a text are low to high.
func insideAll(parts []string, low, high int) bool {
	for _, part := range parts {
		n, err := strconv.Atoi(part)
		if err != nil || n < low || n > high {
			return false
		}
	}
	return true
}

// isCaseText and isLayoutText tell by a regular expression and the bounds whether a text is one of a valid case, or of numbers of a layout.
func isCaseText(text string) bool {
	if !caseShape.MatchString(text) {
		return false
	}
	parts := strings.Split(text, " ")
	return insideAll(parts[:1], 1, 2000) && insideAll(parts[1:2], 1, 200000) && insideAll(parts[2:], 50, 1000)
}

func isLayoutText(text string) bool {
	return layoutShape.MatchString(text) && insideAll(strings.Split(text, ","), 0, 60)
}

// wantCaseText checks all about one text: it is read if it is one of a case, and then gives the same text again.
func wantCaseText(t *testing.T, text string) {
	t.Helper()
	c, cd := impl.ReadCase(text)
	if !isCaseText(text) {
		wantResults(t, "case "+strconv.Quote(text), all(c, cd), impl.Case{}, code(impl.ErrSyntax))
		return
	}
	if cd != impl.OK || !impl.ValidCase(c) || impl.CaseText(c) != text {
		t.Errorf("%q is read as %v, code %d", text, c, cd)
	}
}

// wantLayoutText does so for one text of a layout.
func wantLayoutText(t *testing.T, text string) {
	t.Helper()
	ends, cd := impl.ReadLayout(text)
	if !isLayoutText(text) {
		wantResults(t, "layout "+strconv.Quote(text), all(ends, cd), []int64(nil), code(impl.ErrSyntax))
		return
	}
	if cd != impl.OK || len(ends) == 0 || impl.LayoutText(ends) != text {
		t.Errorf("%q is read as %v, code %d", text, ends, cd)
	}
}

// wantNearby checks a text, and those in which one byte is changed, put in or taken out, or that are cut.
func wantNearby(t *testing.T, text string, want func(t *testing.T, text string)) {
	t.Helper()
	want(t, text)
	for at := range len(text) + 1 {
		for n := range 256 {
			want(t, text[:at]+string([]byte{byte(n)})+text[at:])
			if at < len(text) {
				want(t, text[:at]+string([]byte{byte(n)})+text[at+1:])
			}
		}
		want(t, text[:at])
		want(t, text[at:])
		if at < len(text) {
			want(t, text[:at]+text[at+1:])
		}
	}
}

func TestCaseText(t *testing.T) {
	wants := []string{exampleCase, "1 1 50", "2000 200000" + strings.Repeat(" 1000", 12), "100 70000 1000 50 999 51"}
	for i, c := range casesInside() {
		wantResults(t, "text", all(impl.CaseText(c)), wants[i])
		wantResults(t, wants[i], all(impl.ReadCase(wants[i])), c, code(impl.OK))
		wantNearby(t, wants[i], wantCaseText)
	}
	for _, bad := range casesOutside() {
		wantResults(t, fmt.Sprint(bad), all(impl.CaseText(bad)), "")
	}
	r := newRandom()
	for round := range 300 {
		c := anyCase(r, 1+round%impl.MaxShelves)
		wantResults(t, "read again", all(impl.ReadCase(impl.CaseText(c))), c, code(impl.OK))
	}
}

func TestCaseTextsThatAreNone(t *testing.T) {
	for _, text := range []string{"", " ", "60", "60 ", "60 5000", "60 5000 ", "60 5000 250 ", " 60 5000 250", "60  5000 250", "60 5000  250", "60 5000 250\n",
		"060 5000 250", "60 05000 250", "60 5000 0250", "+60 5000 250", "60 -1 250", "60,5000,250", "60 5000 250,250", "60\t5000 250", "60 5000 2e2",
		"0 5000 250", "2001 5000 250", "60 0 250", "60 200001 250", "60 5000 49", "60 5000 1001", "60 5000 250 49", "60 5000 250 1001", "60 5000 0",
		"65596 5000 250", "60 4294972296 250", "60 5000 65786", "18446744073709551676 5000 250", "60 18446744073709556616 250", "60 5000 18446744073709551866",
		"60 5000" + strings.Repeat(" 250", 13), "60 5000" + strings.Repeat(" 250", 12) + " ", "60 5000" + strings.Repeat(" 250", 12) + " 0", "\u0666 5000 250"} {
		if isCaseText(text) {
			t.Errorf("%q is one, after all", text)
		}
		wantCaseText(t, text)
	}
}

func TestLayoutText(t *testing.T) {
	type asked struct {
		ends []int64
		want string
	}
	for _, a := range []asked{
		{[]int64{2, 3, 3}, "2,3,3"},
		{[]int64{0}, "0"},
		{[]int64{60}, "60"},
		{[]int64{60, 0, 7}, "60,0,7"}, // they need not be ascending
		{slices.Repeat([]int64{60}, 12), "60" + strings.Repeat(",60", 11)},
		{make([]int64, 12), "0" + strings.Repeat(",0", 11)},
	} {
		wantResults(t, "text", all(impl.LayoutText(a.ends)), a.want)
		wantResults(t, a.want, all(impl.ReadLayout(a.want)), a.ends, code(impl.OK))
		wantNearby(t, a.want, wantLayoutText)
	}
	for _, bad := range [][]int64{nil, {}, make([]int64, 13), {-1}, {61}, {1, 2, 61}, {-1, 2}, {3, math.MinInt64}, {math.MaxInt64}, {1 << 32}} {
		wantResults(t, fmt.Sprint(bad), all(impl.LayoutText(bad)), "")
	}
}

func TestLayoutTextsThatAreNone(t *testing.T) {
	for _, text := range []string{"", ",", " ", "1,", ",1", "1,,2", "1, 2", " 1", "1 ", "1\n", "01", "1,02", "00", "+1", "-1", "-0", "1;2", "1 2", "1.2", "0x1", "61", "1,61", "100",
		"4294967297", "18446744073709551617", "0" + strings.Repeat(",0", 12), "0" + strings.Repeat(",0", 11) + ","} {
		if isLayoutText(text) {
			t.Errorf("%q is one, after all", text)
		}
		wantLayoutText(t, text)
	}
}
