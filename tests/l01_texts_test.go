package tests

import (
	"regexp"
	"slices"
	"strconv"
	"strings"
	"testing"

	"loop.example/g01326/impl"
)

var bookShape = regexp.MustCompile(`^(0|[1-9][0-9]*) ([a-z]{3}) ([1-9][0-9]*) ([1-9][0-9]*)x([1-9][0-9]*) ([1-9][0-9]*)$`)

// isBookText tells by a regular expression and the bounds whether a text is that of a valid book.
func isBookText(text string) bool {
	parts := bookShape.FindStringSubmatch(text)
	if parts == nil {
		return false
	}
	inside := func(part, low, high int) bool {
		n, err := strconv.Atoi(parts[part])
		return err == nil && n >= low && n <= high
	}
	return inside(1, 0, 999) && inside(3, 1, 99) && inside(4, 1, 100) && inside(5, 50, 400) && inside(6, 1, 9999)
}

// wantBookText checks all about one text: it is read if it is one of a book, and then gives the same text again.
func wantBookText(t *testing.T, text string) {
	t.Helper()
	b, c := impl.ReadBook(text)
	list, listCode := impl.ReadBooks(text + "\n")
	if !isBookText(text) {
		wantResults(t, "book "+strconv.Quote(text), all(b, c), impl.Book{}, code(impl.ErrSyntax))
		if !strings.Contains(text, "\n") { // with one it may be several books
			wantResults(t, "books "+strconv.Quote(text), all(list, listCode), []impl.Book(nil), code(impl.ErrSyntax))
		}
		return
	}
	if c != impl.OK || !impl.ValidBook(b) || impl.BookText(b) != text {
		t.Errorf("%q is read as %v, code %d", text, b, c)
	}
	wantResults(t, "books "+strconv.Quote(text), all(list, listCode), []impl.Book{b}, code(impl.OK))
}

func TestBookText(t *testing.T) {
	wants := []string{"513 euc 7 25x240 800", "0 aaa 1 1x50 1", "999 zzz 99 100x400 9999"}
	for i, b := range booksInside() {
		if got := impl.BookText(b); got != wants[i] {
			t.Errorf("text of %v is %q", b, got)
		}
		wantResults(t, wants[i], all(impl.ReadBook(wants[i])), b, code(impl.OK))
	}
	for _, bad := range booksOutside() {
		if impl.BookText(bad) != "" || impl.BooksText([]impl.Book{bad}) != "" || impl.BooksText([]impl.Book{plain, bad}) != "" {
			t.Errorf("%v has a text", bad)
		}
	}
	r := newRandom()
	for range 500 {
		b := anyBook(r)
		wantResults(t, "read again", all(impl.ReadBook(impl.BookText(b))), b, code(impl.OK))
	}
}

// TestBookTextsNearby changes each byte of texts in every way that one byte can be changed.
func TestBookTextsNearby(t *testing.T) {
	for _, text := range []string{"513 euc 1 25x240 800", "0 aaa 1 1x50 1", "999 zzz 99 100x400 9999", "10 xxx 10 10x100 10"} {
		wantBookText(t, text)
		for at := range len(text) + 1 {
			for n := range 256 {
				wantBookText(t, text[:at]+string([]byte{byte(n)})+text[at:])
				if at < len(text) {
					wantBookText(t, text[:at]+string([]byte{byte(n)})+text[at+1:])
				}
			}
			wantBookText(t, text[:at])
			wantBookText(t, text[at:])
			if at < len(text) {
				wantBookText(t, text[:at]+text[at+1:])
			}
		}
	}
}

func TestBookTextsThatAreNone(t *testing.T) {
	texts := []string{"", " ", "\n", "513", "0513 euc 1 25x240 800", "00 euc 1 25x240 800", "+513 euc 1 25x240 800", "-0 euc 1 25x240 800", "-1 euc 1 25x240 800",
		"513 euc 01 25x240 800", "513 euc 1 025x240 800", "513 euc 1 25x0240 800", "513 euc 1 25x240 0800", "513 euc 1 25x240 +800",
		"513  euc 1 25x240 800", " 513 euc 1 25x240 800", "513 euc 1 25x240 800 ", "513 euc 1 25 x240 800", "513 euc 1 25x 240 800", "513 euc 1 25X240 800",
		"513\teuc 1 25x240 800", "513 EUC 1 25x240 800", "513 eu 1 25x240 800", "513 eucl 1 25x240 800", "513 \u00e9u 1 25x240 800",
		"513 euc 1 25x240 800\n", "513 euc 1 25x240", "513 euc 1 25x240 ", "513 euc 1 25x240 8e2", "5_13 euc 1 25x240 800", "0x1 euc 1 25x240 800",
		"1000 euc 1 25x240 800", "513 euc 0 25x240 800", "513 euc 100 25x240 800", "513 euc 1 0x240 800", "513 euc 1 101x240 800",
		"513 euc 1 25x49 800", "513 euc 1 25x401 800", "513 euc 1 25x240 0", "513 euc 1 25x240 10000",
		"66049 euc 1 25x240 800", "513 euc 65537 25x240 800", "513 euc 1 25x240 66336", "4294967809 euc 1 25x240 800",
		"18446744073709552129 euc 1 25x240 800", "513 euc 1 25x240 18446744073709552416"}
	for _, text := range texts {
		if isBookText(text) {
			t.Errorf("%q is one, after all", text)
		}
		wantBookText(t, text)
	}
}

func TestBooksText(t *testing.T) {
	if impl.BooksText(nil) != "" || impl.BooksText([]impl.Book{}) != "" {
		t.Error("no books have a text")
	}
	wantResults(t, "the empty text", all(impl.ReadBooks("")), []impl.Book(nil), code(impl.OK))
	list := readList(t, exampleText)
	if impl.BooksText(list) != exampleText {
		t.Errorf("the example is %q", impl.BooksText(list))
	}
	r := newRandom()
	for count := range impl.MaxBooks + 1 {
		list := anyBooks(r, count)
		wantResults(t, "read again", all(impl.ReadBooks(impl.BooksText(list))), list, code(impl.OK))
	}
	full := slices.Repeat([]impl.Book{plain}, impl.MaxBooks)
	line := impl.BookText(plain) + "\n"
	if impl.BooksText(full) != strings.Repeat(line, impl.MaxBooks) || impl.BooksText(append(full, plain)) != "" {
		t.Error("the text of MaxBooks, or of one more")
	}
}

func TestBooksTextsThatAreNone(t *testing.T) {
	line := impl.BookText(plain)
	texts := []string{"\n", " ", line, line + "\n\n", "\n" + line + "\n", line + "\n" + line, line + "\r\n", line + " \n", line + "\n ", line + line + "\n",
		line + "\n513\n", line + "\n0" + line + "\n", line + "\n+" + line + "\n", line + "\x00\n", line + "\n1000 euc 1 25x240 800\n",
		strings.Repeat(line+"\n", impl.MaxBooks+1), strings.Repeat(line+"\n", impl.MaxBooks) + "\n", strings.Repeat(line+"\n", impl.MaxBooks) + line}
	for _, text := range texts {
		wantResults(t, strconv.Quote(text), all(impl.ReadBooks(text)), []impl.Book(nil), code(impl.ErrSyntax))
	}
}
