package tests

import (
	"fmt"
	"math/rand/v2"
	"slices"
	"strconv"
	"strings"
	"testing"

	"loop.example/g01326/impl"
)

// labelledOf returns a valid book of which only what its label tells is chosen.
func labelledOf(class int, mark string, volume int) impl.Book {
	return bookOf(int16(class), mark, int16(volume), 100)
}

// anyLabelled returns a book with any class, mark and volume.
func anyLabelled(r *rand.Rand) impl.Book {
	mark := []byte{'a' + byte(r.IntN(26)), 'a' + byte(r.IntN(26)), 'a' + byte(r.IntN(26))}
	return labelledOf(r.IntN(1000), string(mark), 1+r.IntN(99))
}

// slowCheckDigit tells by the document's words which check digit is behind the eight characters of a label.
func slowCheckDigit(front string) string {
	sum := 0
	for i, factor := range []int{1, 3, 7, 9, 1, 3, 7, 9} {
		value := strings.IndexByte("0123456789", front[i])
		if value < 0 {
			value = strings.IndexByte("-abcdefghijklmnopqrstuvwxyz", front[i])
		}
		sum += factor * value
	}
	return strconv.Itoa(sum % 10)
}

// slowLabel tells by the document's words which label a valid book has.
func slowLabel(b impl.Book) string {
	front := fmt.Sprintf("%03d%s%02d", b.Class, b.Mark[:], b.Volume)
	return front + slowCheckDigit(front)
}

// slowIsLabel tells by the document's words whether a text is a label.
func slowIsLabel(text string) bool {
	if len(text) != 9 {
		return false
	}
	for i := range 9 {
		allowed := "0123456789"
		if i >= 3 && i < 6 {
			allowed = "abcdefghijklmnopqrstuvwxyz"
		}
		if strings.IndexByte(allowed, text[i]) < 0 {
			return false
		}
	}
	return text[6:8] != "00" && text[8:] == slowCheckDigit(text[:8])
}

// withByte returns a text with another byte in one place.
func withByte(text string, at int, other byte) string {
	return text[:at] + string([]byte{other}) + text[at+1:]
}

// slowNear goes through all bytes in all places of a text.
func slowNear(text string) []string {
	var found []string
	for at := range len(text) {
		for other := range 256 {
			if near := withByte(text, at, byte(other)); near != text && slowIsLabel(near) {
				found = append(found, near)
			}
		}
	}
	slices.Sort(found)
	return found
}

// slowSwapped exchanges all bytes of a text that are next to each other.
func slowSwapped(text string) []string {
	var found []string
	for at := 1; at < len(text); at++ {
		swapped := text[:at-1] + text[at:at+1] + text[at-1:at] + text[at+1:]
		if swapped != text && slowIsLabel(swapped) && !slices.Contains(found, swapped) {
			found = append(found, swapped)
		}
	}
	slices.Sort(found)
	return found
}

// lists returns all lists of at most most books with these letters (see lettered).
func lists(letters string, most int) [][]impl.Book {
	found := []string{""}
	for from := 0; most > 0; most-- {
		longer := found[from:]
		from = len(found)
		for _, list := range longer {
			for _, letter := range letters {
				found = append(found, list+string(letter))
			}
		}
	}
	var out [][]impl.Book
	for _, list := range found {
		out = append(out, books(list))
	}
	return out
}

// lettersOf returns the letters of books (see lettered).
func lettersOf(list []impl.Book) string {
	r := impl.Rack{Places: int16(len(list))}
	for at, b := range list {
		r.Books = append(r.Books, impl.Placed{At: int16(at), Book: b})
	}
	return shown(r)
}

// lookalikes returns books that are equal by the usual order to one with a class, but differ from each other in Wide, High or Weight.
func lookalikes(class int16) []impl.Book {
	list := slices.Repeat(classed(class), 4)
	list[1].Wide++
	list[2].High++
	list[3].Weight++
	return list
}

// mixed returns a shuffled copy of a list.
func mixed(r *rand.Rand, list []impl.Book) []impl.Book {
	out := slices.Clone(list)
	r.Shuffle(len(out), func(i, j int) { out[i], out[j] = out[j], out[i] })
	return out
}

// anyStocks returns a catalogue and a shelf that often have much in common.
func anyStocks(r *rand.Rand, most int) (catalogue, shelf []impl.Book) {
	all := anyBooks(r, r.IntN(most+1))
	for i := range all {
		if r.IntN(2) == 0 {
			all[i] = pickOf(r, lookalikes(int16(r.IntN(3)))...)
		}
	}
	catalogue, shelf = slowSort(usual, all), mixed(r, all)
	switch r.IntN(4) {
	case 0:
		catalogue = catalogue[r.IntN(len(catalogue)+1):]
	case 1:
		shelf = shelf[r.IntN(len(shelf)+1):]
	case 2:
		for i := range shelf {
			if r.IntN(4) == 0 {
				shelf[i] = anyBook(r)
			}
		}
	}
	return catalogue, shelf
}

// slowOver returns the books that a list has more often than another one, each as often as it does: the last ones of equal ones, in the order of the list.
func slowOver(list, other []impl.Book) []impl.Book {
	over := countsOf(list)
	for _, b := range other {
		over[b]--
	}
	var found []impl.Book
	for _, b := range slices.Backward(list) {
		if over[b] > 0 {
			over[b]--
			found = slices.Insert(found, 0, b)
		}
	}
	return found
}

// slowOut returns the indices of all books of a short shelf that are not kept.
func slowOut(shelf []impl.Book) []int64 {
	kept := slowKept(shelf)
	var out []int64
	for i := range shelf {
		if !slices.Contains(kept, int64(i)) {
			out = append(out, int64(i))
		}
	}
	return out
}

// slowSlips returns all moves that make a catalogue of a shelf, by From and then by To.
func slowSlips(catalogue, shelf []impl.Book) []impl.Move {
	var found []impl.Move
	for from := range shelf {
		for to := range shelf {
			if moved, can := slowPut(shelf, from, 1, to); can && slices.Equal(moved, catalogue) {
				found = append(found, impl.Move{From: int16(from), To: int16(to)})
			}
		}
	}
	return found
}

// slowExchanges returns all exchanges that make a catalogue of a shelf, by From and then by To.
func slowExchanges(catalogue, shelf []impl.Book) []impl.Move {
	var found []impl.Move
	for from := range shelf {
		for to := from + 1; to < len(shelf); to++ {
			swapped := slices.Clone(shelf)
			swapped[from], swapped[to] = shelf[to], shelf[from]
			if slices.Equal(swapped, catalogue) {
				found = append(found, impl.Move{From: int16(from), To: int16(to)})
			}
		}
	}
	return found
}

// slowRight returns where each book of a shelf stands in a catalogue with the same stock.
func slowRight(catalogue, shelf []impl.Book) []int64 {
	var found []int64
	for i, b := range shelf {
		before := countsOf(shelf[:i])[b]
		for at, other := range catalogue {
			if other == b && countsOf(catalogue[:at])[b] == before {
				found = append(found, int64(at))
			}
		}
	}
	return found
}

// slowWalkTo takes wanted books from a shelf one by one; false if one is not there.
func slowWalkTo(shelf, wanted []impl.Book) ([]int64, bool) {
	var found []int64
	for _, w := range wanted {
		at := slices.IndexFunc(shelf, func(b impl.Book) bool {
			return b.Class == w.Class && b.Mark == w.Mark && b.Volume == w.Volume
		})
		if at < 0 {
			return nil, false
		}
		found = append(found, int64(at))
		shelf = slices.Clone(shelf)
		shelf[at] = impl.Book{Class: -1}
	}
	return found, true
}

// slowLength goes from stop to stop, one step at a time.
func slowLength(stops []int64, start int64) int64 {
	length := int64(0)
	for _, stop := range stops {
		for start != stop {
			if start < stop {
				start++
			} else {
				start--
			}
			length++
		}
	}
	return length
}

// ordersOf goes through all orders of a list.
func ordersOf(list []int64, visit func(order []int64)) {
	if len(list) == 0 {
		visit(nil)
	}
	for i, first := range list {
		ordersOf(slices.Concat(list[:i], list[i+1:]), func(rest []int64) {
			visit(append([]int64{first}, rest...))
		})
	}
}

// slowWalk goes through all orders of few stops, and returns the shortest one, of several the first one as a list.
func slowWalk(stops []int64, start int64) ([]int64, int64) {
	var best []int64
	least := int64(-1)
	ordersOf(stops, func(order []int64) {
		length := slowLength(order, start)
		if least < 0 || length < least || length == least && slices.Compare(order, best) < 0 {
			best, least = order, length
		}
	})
	return best, least
}

// slowHeaviest goes through all rows of books next to each other; the count is 0 if none is as narrow as wide.
func slowHeaviest(list []impl.Book, wide int64) (first, count, weight int64) {
	for i := range list {
		for j := i + 1; j <= len(list); j++ {
			width, grams := int64(0), int64(0)
			for _, b := range list[i:j] {
				width += int64(b.Wide)
				grams += int64(b.Weight)
			}
			better := grams > weight || grams == weight && (int64(i) < first || int64(i) == first && int64(j-i) < count)
			if width <= wide && (count == 0 || better) {
				first, count, weight = int64(i), int64(j-i), grams
			}
		}
	}
	return first, count, weight
}

// slowReport tells by the document's words what the report of a catalogue and a short shelf is.
func slowReport(catalogue, shelf []impl.Book) string {
	text := ""
	for _, b := range slowOver(catalogue, shelf) {
		text += "missing " + slowLabel(b) + "\n"
	}
	for _, b := range slowOver(shelf, catalogue) {
		text += "foreign " + slowLabel(b) + "\n"
	}
	for _, at := range slowOut(shelf) {
		text += fmt.Sprintf("place %d %s\n", at, slowLabel(shelf[at]))
	}
	return text
}

// stockCall is a function with a catalogue and a shelf; needsSame tells that these need to have the same stock.
type stockCall struct {
	name      string
	needsSame bool
	run       func(catalogue, shelf []impl.Book) []any
}

// stockCalls lists all functions with a catalogue and a shelf.
func stockCalls() []stockCall {
	return []stockCall{
		{"MissingBooks", false, func(c, s []impl.Book) []any { return all(impl.MissingBooks(c, s)) }},
		{"ForeignBooks", false, func(c, s []impl.Book) []any { return all(impl.ForeignBooks(c, s)) }},
		{"SameStock", false, func(c, s []impl.Book) []any { return all(impl.SameStock(c, s)) }},
		{"ReportOf", false, func(c, s []impl.Book) []any { return all(impl.ReportOf(c, s)) }},
		{"OneSlip", true, func(c, s []impl.Book) []any { return all(impl.OneSlip(c, s)) }},
		{"OneSwap", true, func(c, s []impl.Book) []any { return all(impl.OneSwap(c, s)) }},
		{"FewestSlips", true, func(c, s []impl.Book) []any { return all(impl.FewestSlips(c, s)) }},
		{"RightPlaces", true, func(c, s []impl.Book) []any { return all(impl.RightPlaces(c, s)) }},
	}
}

// wantCode checks the code of a call, and that all is zero beside an error.
func wantCode(t *testing.T, name string, results []any, want int64) {
	t.Helper()
	last := len(results) - 1
	if results[last] != want {
		t.Errorf("%s: code %v, want %d", name, results[last], want)
	}
	for _, result := range results[:last] {
		if want != impl.OK && !isZero(result) {
			t.Errorf("%s: %v beside the code %d", name, result, want)
		}
	}
}
