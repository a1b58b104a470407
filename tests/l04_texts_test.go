package tests

import (
	"fmt"
	"regexp"
	"slices"
	"strconv"
	"strings"
	"testing"

	"loop.example/g01326/impl"
)

var heightsShape = regexp.MustCompile(`^[1-9][0-9]*( [1-9][0-9]*){3,8}$`)

// isHeightsText tells by a regular expression and the bounds whether a text is one of valid pegs and heights.
func isHeightsText(text string) bool {
	if !heightsShape.MatchString(text) {
		return false
	}
	parts := strings.Split(text, " ")
	if !insideAll(parts[:1], 50, 400) || !insideAll(parts[1:3], 1, 100) || !insideAll(parts[3:], 50, 1000) {
		return false
	}
	var numbers []int
	for _, part := range parts {
		n, _ := strconv.Atoi(part)
		numbers = append(numbers, n)
	}
	heights := numbers[3:]
	for _, high := range heights {
		if high < numbers[0] || (high-numbers[0])%numbers[1] != 0 {
			return false
		}
	}
	return slices.IsSorted(heights) && len(slices.Compact(slices.Clone(heights))) == len(heights)
}

// wantHeightsText checks all about one text: it is read if it is one of pegs and heights, and then gives the same text again.
func wantHeightsText(t *testing.T, text string) {
	t.Helper()
	p, heights, cd := impl.ReadHeights(text)
	if !isHeightsText(text) {
		wantResults(t, strconv.Quote(text), all(p, heights, cd), impl.Pegs{}, []int64(nil), code(impl.ErrSyntax))
		return
	}
	if cd != impl.OK || !impl.ValidHeights(p, heights) || impl.HeightsText(p, heights) != text {
		t.Errorf("%q is read as %v and %v, code %d", text, p, heights, cd)
	}
}

func TestHeightsText(t *testing.T) {
	type asked struct {
		p       impl.Pegs
		heights []int64
		want    string
	}
	for _, a := range []asked{
		{examplePegs, []int64{200, 240}, "200 20 10 200 240"},
		{examplePegs, []int64{1000}, "200 20 10 1000"},
		{impl.Pegs{Low: 50, Step: 1, Board: 1}, []int64{50, 51, 52, 998, 999, 1000}, "50 1 1 50 51 52 998 999 1000"},
		{impl.Pegs{Low: 400, Step: 100, Board: 100}, []int64{400, 500, 1000}, "400 100 100 400 500 1000"},
		{impl.Pegs{Low: 50, Step: 19, Board: 7}, []int64{69, 981}, "50 19 7 69 981"},
	} {
		wantResults(t, "text", all(impl.HeightsText(a.p, a.heights)), a.want)
		wantResults(t, a.want, all(impl.ReadHeights(a.want)), a.p, a.heights, code(impl.OK))
		wantNearby(t, a.want, wantHeightsText)
	}
	for _, heights := range heightsOutside() {
		wantResults(t, fmt.Sprint(heights), all(impl.HeightsText(examplePegs, heights)), "")
	}
	for _, p := range pegsOutside() {
		wantResults(t, fmt.Sprint(p), all(impl.HeightsText(p, []int64{200, 240})), "")
	}
	r := newRandom()
	for range 500 {
		p := anyPegs(r)
		heights := anyHeights(r, p, 1+r.IntN(impl.MaxHeights))
		wantResults(t, "read again", all(impl.ReadHeights(impl.HeightsText(p, heights))), p, heights, code(impl.OK))
	}
}

func TestHeightsTextsThatAreNone(t *testing.T) {
	for _, text := range []string{"", " ", "200", "200 ", "200 20", "200 20 10", "200 20 10 ", " 200 20 10 200", "200  20 10 200", "200 20  10 200", "200 20 10  200", "200 20 10 200  220", "200 20 10 200 ", "200 20 10 200 220 ",
		"200 20 10 200\n", "0200 20 10 200", "200 020 10 200", "200 20 010 200", "200 20 10 0200", "200 20 10 200 0220", "+200 20 10 200", "200 -20 10 200", "200,20,10,200", "200 20 10 200,220", "200\t20 10 200", "200 20 10 2e2",
		"49 20 10 49", "401 20 10 401", "200 0 10 200", "200 101 10 200", "200 20 0 200", "200 20 101 200", "200 20 10 0", "200 20 10 180", "200 20 10 210", "200 20 10 201", "200 20 10 1020", "200 100 10 1100",
		"200 20 10 200 200", "200 20 10 220 200", "200 20 10 200 240 220", "200 20 10 200 220 240 260 280 300 320", "200 20 10 200 220 240 260 280 300 ", "200 20 10 200 220 240 260 280 300 0",
		"65736 20 10 200", "200 65556 10 200", "200 20 65546 200", "200 20 10 65736", "200 20 10 4294967516", "18446744073709551816 20 10 200", "200 20 10 18446744073709551816", "\u0662 20 10 200"} {
		if isHeightsText(text) {
			t.Errorf("%q is one, after all", text)
		}
		wantHeightsText(t, text)
	}
}
