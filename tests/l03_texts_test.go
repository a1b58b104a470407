package tests

import (
	"fmt"
	"math"
	"regexp"
	"slices"
	"strconv"
	"strings"
	"testing"

	"loop.example/g01326/impl"
)

var movesShape = regexp.MustCompile(`^((0|[1-9][0-9]?)>(0|[1-9][0-9]?)( (0|[1-9][0-9]?)>(0|[1-9][0-9]?))*)?$`)

// isMovesText tells by a regular expression and a count whether a text is one of moves.
func isMovesText(text string) bool {
	return movesShape.MatchString(text) && strings.Count(text, ">") <= 200
}

// wantMovesText checks all about one text: it is read if it is one of moves, and then gives the same text again.
func wantMovesText(t *testing.T, text string) {
	t.Helper()
	moves, cd := impl.ReadMoves(text)
	if !isMovesText(text) {
		wantResults(t, "moves "+strconv.Quote(text), all(moves, cd), []impl.Move(nil), code(impl.ErrSyntax))
		return
	}
	if cd != impl.OK || len(moves) != strings.Count(text, ">") || impl.MovesText(moves) != text {
		t.Errorf("%q is read as %v, code %d", text, moves, cd)
	}
}

func TestMovesText(t *testing.T) {
	type asked struct {
		moves []impl.Move
		want  string
	}
	most := slices.Repeat([]impl.Move{{From: 10, To: 99}}, impl.MaxMoves)
	for _, a := range []asked{
		{nil, ""},
		{[]impl.Move{{From: 0, To: 1}, {From: 1, To: 2}}, "0>1 1>2"},
		{[]impl.Move{{}}, "0>0"},
		{[]impl.Move{{From: 99, To: 99}}, "99>99"}, // no list has as many books, but the text has
		{[]impl.Move{{From: 60, To: 7}, {From: 7, To: 60}, {From: 10, To: 9}}, "60>7 7>60 10>9"},
		{most, strings.TrimSuffix(strings.Repeat("10>99 ", impl.MaxMoves), " ")},
	} {
		wantResults(t, "text", all(impl.MovesText(a.moves)), a.want)
		wantResults(t, a.want, all(impl.ReadMoves(a.want)), a.moves, code(impl.OK))
	}
	wantResults(t, "one more", all(impl.MovesText(append(most, impl.Move{}))), "")
	for _, n := range []int16{-1, 100, 101, 256, math.MinInt16, math.MaxInt16} {
		for _, bad := range [][]impl.Move{{{From: n}}, {{To: n}}, {{}, {From: n}}, {{To: n}, {}}, {{}, {From: 1, To: n}, {}}} {
			wantResults(t, fmt.Sprint(bad), all(impl.MovesText(bad)), "")
		}
	}
	r := newRandom()
	for count := range impl.MaxMoves + 1 {
		var moves []impl.Move
		for range count {
			moves = append(moves, impl.Move{From: int16(r.IntN(100)), To: int16(r.IntN(100))})
		}
		wantResults(t, "read again", all(impl.ReadMoves(impl.MovesText(moves))), moves, code(impl.OK))
	}
}

func TestMovesTextsNearby(t *testing.T) {
	for _, text := range []string{"", "0>1 1>2", "99>99", "10>0 0>10 60>59", "7>7"} {
		wantNearby(t, text, wantMovesText)
	}
}

func TestMovesTextsThatAreNone(t *testing.T) {
	most := strings.Repeat("0>1 ", impl.MaxMoves)
	for _, text := range []string{" ", ">", "0", "0>", ">0", "0>1 ", " 0>1", "0>1  1>2", "0>1,1>2", "0>1\n", "0>1\n1>2", "0 >1", "0> 1", "0>>1", "0>1>2", "0-1", "0<1", "x",
		"00>1", "0>01", "01>2", "0>00", "+0>1", "0>+1", "-0>1", "-1>0", "0>-1", "100>0", "0>100", "0>1 100>0", "65536>0", "0>65537", "4294967296>0", "18446744073709551616>0",
		"0>1 1", "0>1 1>", "0\u003e1\x00", "\u0660>1", most, most + "1>", most + "0>1", most + "0>1 ", most + "x"} {
		if isMovesText(text) {
			t.Errorf("%q is one, after all", text)
		}
		wantMovesText(t, text)
	}
}
