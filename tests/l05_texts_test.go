package tests

import (
	"fmt"
	"regexp"
	"strconv"
	"strings"
	"testing"

	"loop.example/g01326/impl"
)

var (
	placesShape = regexp.MustCompile(`^[1-9][0-9]?$`)
	atShape     = regexp.MustCompile(`^(0|[1-9][0-9]?)$`)
)

// isRackText tells by regular expressions and the bounds whether a text is that of a valid rack.
func isRackText(text string) bool {
	lines := strings.Split(text, "\n")
	last := len(lines) - 1
	if last < 1 || lines[last] != "" || !placesShape.MatchString(lines[0]) {
		return false
	}
	places, _ := strconv.Atoi(lines[0])
	var list []impl.Book
	least := 0
	for _, line := range lines[1:last] {
		part, book, _ := strings.Cut(line, " ")
		if !atShape.MatchString(part) || !isBookText(book) {
			return false
		}
		at, _ := strconv.Atoi(part)
		if at < least || at >= places {
			return false
		}
		least = at + 1
		b, _ := impl.ReadBook(book)
		list = append(list, b)
	}
	return places <= 60 && slowSorted(list)
}

// wantRackText checks all about one text: it is read if it is one of a rack, and then gives the same text again.
func wantRackText(t *testing.T, text string) {
	t.Helper()
	r, cd := impl.ReadRack(text)
	if !isRackText(text) {
		wantResults(t, strconv.Quote(text), all(r, cd), impl.Rack{}, code(impl.ErrSyntax))
		return
	}
	if cd != impl.OK || !slowValidRack(r) || impl.RackText(r) != text {
		t.Errorf("%q is read as %v, code %d", text, r, cd)
	}
}

func TestRackText(t *testing.T) {
	sixty := strings.Builder{}
	sixty.WriteString("60\n")
	for at := range 60 {
		fmt.Fprintf(&sixty, "%d 12 aaa 1 10x100 1\n", at)
	}
	type asked struct {
		r    impl.Rack
		want string
	}
	for _, a := range []asked{
		{rackOf("."), "1\n"},
		{rackOf(strings.Repeat(".", 60)), "60\n"},
		{rackOf("m"), "1\n0 12 aaa 1 10x100 1\n"},
		{rackOf(".a..Bb."), "7\n1 0 aaa 1 10x100 1\n4 1 aaa 1 10x100 2\n5 1 aaa 1 10x100 1\n"},
		{plainAt(60, 0, 59), "60\n0 513 euc 7 25x240 800\n59 513 euc 7 25x240 800\n"},
		{rackOf(strings.Repeat("m", 60)), sixty.String()},
	} {
		wantResults(t, "text", all(impl.RackText(a.r)), a.want)
		r, cd := impl.ReadRack(a.want)
		wantResults(t, a.want, all(impl.SameRack(r, a.r), cd), true, code(impl.OK))
		if len(a.want) < 100 {
			wantNearby(t, a.want, wantRackText)
		}
	}
	for _, r := range racksOutside() {
		wantResults(t, fmt.Sprint(r), all(impl.RackText(r)), "")
	}
	r := newRandom()
	for round := range 600 {
		rack := anyRack(r, 1+round%impl.MaxPlaces)
		again, cd := impl.ReadRack(impl.RackText(rack))
		wantResults(t, fmt.Sprint(rack), all(impl.SameRack(again, rack), cd), true, code(impl.OK))
	}
}

func TestRackTextsThatAreNone(t *testing.T) {
	const one, two = "1 513 euc 1 25x240 800\n", "3 513 fig 1 25x240 800\n"
	const good = "5\n" + one + two
	texts := []string{"", " ", "\n", "5", "5 ", "5 \n", " 5\n", "5\n\n", "\n5\n", "\n" + good, good + "\n", "5\n\n" + one, "5\n" + one + "\n" + two, good + " ", strings.TrimSuffix(good, "\n"), "5\n" + strings.TrimSuffix(one, "\n"), "5\n" + strings.TrimSuffix(one, "\n") + two,
		"5 " + one, "5" + one, "5\r\n" + one, one, one + two, "5\n" + one + two + one, "5,\n", "5\x00\n", "5\n5\n",
		"5\n 1 513 euc 1 25x240 800\n", "5\n1  513 euc 1 25x240 800\n", "5\n1 513  euc 1 25x240 800\n", "5\n1 513 euc 1 25x240  800\n", "5\n1 513 euc 1 25x240 800 \n", "5\n1513 euc 1 25x240 800\n", "5\n1\t513 euc 1 25x240 800\n", "5\n1\n513 euc 1 25x240 800\n", "5\n1 513 euc 1 25x240 800\r\n",
		"5\n1\n", "5\n1 \n", "5\n513 euc 1 25x240 800\n", "5\n1 513 euc 1 25x240\n", "5\n1 1 513 euc 1 25x240 800\n",
		"05\n", "005\n" + one, "+5\n", "-5\n", "0\n", "00\n", "61\n", "100\n", "0\n0 513 euc 1 25x240 800\n", "65541\n", "4294967301\n", "18446744073709551621\n", "5e1\n", "0x5\n", "\u0665\n",
		"5\n01 513 euc 1 25x240 800\n", "5\n00 513 euc 1 25x240 800\n", "5\n+1 513 euc 1 25x240 800\n", "5\n-1 513 euc 1 25x240 800\n", "5\n-0 513 euc 1 25x240 800\n", "5\n5 513 euc 1 25x240 800\n", "5\n6 513 euc 1 25x240 800\n", "5\n60 513 euc 1 25x240 800\n",
		"60\n60 513 euc 1 25x240 800\n", "61\n60 513 euc 1 25x240 800\n", "5\n65537 513 euc 1 25x240 800\n", "5\n4294967297 513 euc 1 25x240 800\n", "5\n18446744073709551617 513 euc 1 25x240 800\n",
		"5\n1 0513 euc 1 25x240 800\n", "5\n1 513 euc 01 25x240 800\n", "5\n1 513 euc 1 25x240 0800\n", "5\n1 1000 euc 1 25x240 800\n", "5\n1 513 EUC 1 25x240 800\n", "5\n1 513 euc 0 25x240 800\n", "5\n1 513 euc 1 25x240 0\n", "5\n1 513 euc 1 25x401 800\n",
		// Places that are not strictly increasing, and books that are not in order.
		"5\n" + two + one, "5\n" + one + one, "5\n" + one + "1 513 fig 1 25x240 800\n", "5\n" + one + "0 513 fig 1 25x240 800\n", "5\n" + one + "3 513 eua 1 25x240 800\n", "5\n" + one + "3 512 fig 1 25x240 800\n", "5\n1 513 euc 2 25x240 800\n3 513 euc 1 25x240 800\n",
	}
	full := "60\n"
	for at := range 60 {
		full += strconv.Itoa(at) + " 513 euc 1 25x240 800\n"
	}
	texts = append(texts, full+"60 513 euc 1 25x240 800\n", full+"59 513 euc 1 25x240 800\n", full+"\n", full+" ", full+"6", "59"+full[2:], "1"+full[2:])
	for _, text := range texts {
		if isRackText(text) {
			t.Errorf("%q is one, after all", text)
		}
		wantRackText(t, text)
	}
	for _, text := range []string{good, full, "60\n" + one + two, "4\n" + one + two, "5\n" + one + "2 513 euc 1 25x240 1\n"} {
		if !isRackText(text) {
			t.Errorf("%q is none, after all", text)
		}
		wantRackText(t, text)
	}
}
