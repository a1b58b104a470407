package impl

import (
	"cmp"
	"errors"
	"slices"
	"strconv"
)

// Error codes.
const (
	OK          = 0
	ErrInvalid  = 1
	ErrRange    = 2
	ErrLimit    = 3
	ErrState    = 4
	ErrSyntax   = 5
	ErrNotFound = 6
	ErrBudget   = 7
	ErrProof    = 8
)

// MaxBooks is the greatest number of books of a list.
const MaxBooks = 60

// Fields of orders.
const (
	OrClass  = 1
	OrMark   = 2
	OrVolume = 3
	OrWide   = 4
	OrHigh   = 5
	OrWeight = 6
)

// Book is a book.
type Book struct {
	Class  int16
	Mark   [3]byte
	Volume int16
	Wide   int16
	High   int16
	Weight int16
}

// The errors inside the package; callers outside get their codes.
var (
	errInvalid = errors.New("invalid")
	errState   = errors.New("state")
	errSyntax  = errors.New("syntax")
)

// codeOf returns the code of an error.
func codeOf(err error) int64 {
	switch {
	case err == nil:
		return OK
	case errors.Is(err, errState):
		return ErrState
	case errors.Is(err, errSyntax):
		return ErrSyntax
	}
	return ErrInvalid
}

// CodeName returns the name of an error code.
func CodeName(code int64) string {
	names := [...]string{"ok", "invalid", "range", "limit", "state", "syntax", "notfound", "budget", "proof"}
	if !within(code, 0, int64(len(names))-1) {
		return ""
	}
	return names[code]
}

// within reports whether n is low to high.
func within[T cmp.Ordered](n, low, high T) bool { return low <= n && n <= high }

// ValidBook reports whether b is valid.
func ValidBook(b Book) bool {
	for _, letter := range b.Mark {
		if !within(letter, 'a', 'z') {
			return false
		}
	}
	return within(b.Class, 0, 999) && within(b.Volume, 1, 99) && within(b.Wide, 1, 100) &&
		within(b.High, 50, 400) && within(b.Weight, 1, 9999)
}

// ValidBooks reports whether a list is valid.
func ValidBooks(list []Book) bool {
	if len(list) > MaxBooks {
		return false
	}
	for _, b := range list {
		if !ValidBook(b) {
			return false
		}
	}
	return true
}

// SameBooks reports whether two lists are deeply equal.
func SameBooks(a, b []Book) bool { return slices.Equal(a, b) }

// ValidOrder reports whether an order is valid.
func ValidOrder(order []int8) bool {
	if !within(len(order), 1, OrWeight) {
		return false
	}
	var used [OrWeight + 1]bool
	for _, signed := range order {
		// -128 is its own opposite, and so remains none of the fields.
		field := max(signed, -signed)
		if !within(field, OrClass, OrWeight) || used[field] {
			return false
		}
		used[field] = true
	}
	return true
}

func (b Book) classKey() int64  { return int64(b.Class) }
func (b Book) volumeKey() int64 { return int64(b.Volume) }
func (b Book) wideKey() int64   { return int64(b.Wide) }
func (b Book) highKey() int64   { return int64(b.High) }
func (b Book) weightKey() int64 { return int64(b.Weight) }

// markKey makes one number of the three bytes: it is less exactly if the first byte that differs is.
func (b Book) markKey() int64 {
	return int64(b.Mark[0])<<16 | int64(b.Mark[1])<<8 | int64(b.Mark[2])
}

// compareField compares two books by one field of a valid order.
func compareField(field int8, a, b Book) int64 {
	if field < 0 {
		field, a, b = -field, b, a
	}
	keys := [...]func(Book) int64{
		OrClass:  Book.classKey,
		OrMark:   Book.markKey,
		OrVolume: Book.volumeKey,
		OrWide:   Book.wideKey,
		OrHigh:   Book.highKey,
		OrWeight: Book.weightKey,
	}
	key := keys[int(field)]
	return int64(cmp.Compare(key(a), key(b)))
}

// compareFields compares two books, valid or not, by a valid order.
func compareFields(order []int8, a, b Book) int64 {
	for _, field := range order {
		if c := compareField(field, a, b); c != 0 {
			return c
		}
	}
	return 0
}

// CompareBy compares two books by an order.
func CompareBy(order []int8, a, b Book) (int64, int64) {
	if !ValidOrder(order) || !ValidBook(a) || !ValidBook(b) {
		return 0, ErrInvalid
	}
	return compareFields(order, a, b), OK
}

// CompareBooks compares two books by the usual order.
func CompareBooks(a, b Book) int64 {
	return compareFields([]int8{OrClass, OrMark, OrVolume}, a, b)
}

// inOrder returns a new list in the order of a comparison; what is equal in it stays as it was.
func inOrder[T any](list []T, compare func(a, b T) int64) []T {
	sorted := append([]T(nil), list...)
	slices.SortStableFunc(sorted, func(a, b T) int { return int(compare(a, b)) })
	return sorted
}

// SortBooks returns a list in an order.
func SortBooks(order []int8, list []Book) ([]Book, int64) {
	if !ValidOrder(order) || !ValidBooks(list) {
		return nil, ErrInvalid
	}
	return inOrder(list, func(a, b Book) int64 { return compareFields(order, a, b) }), OK
}

// runsOf returns where the runs of a list begin.
func runsOf(list []Book) []int64 {
	var begins []int64
	for i := range list {
		if i == 0 || CompareBooks(list[i], list[i-1]) < 0 {
			begins = append(begins, int64(i))
		}
	}
	return begins
}

// checkSorted returns the error of lists of which one is not valid, or else not sorted.
func checkSorted(lists ...[]Book) error {
	for _, list := range lists {
		if !ValidBooks(list) {
			return errInvalid
		}
	}
	for _, list := range lists {
		if len(runsOf(list)) > 1 {
			return errState
		}
	}
	return nil
}

// IsSorted reports whether a list is sorted.
func IsSorted(list []Book) (bool, int64) {
	err := checkSorted(list)
	if errors.Is(err, errState) {
		return false, OK
	}
	return err == nil, codeOf(err)
}

// FirstOut returns the first book that is out of order.
func FirstOut(list []Book) (int64, int64) {
	if !ValidBooks(list) {
		return 0, ErrInvalid
	}
	begins := runsOf(list)
	if len(begins) < 2 {
		return 0, ErrNotFound
	}
	return begins[1], OK
}

// PairsOut returns how many pairs are out of order.
func PairsOut(list []Book) (int64, int64) {
	if !ValidBooks(list) {
		return 0, ErrInvalid
	}
	// Equal books are out with the same ones behind them, so each kind is compared once.
	counts := map[Book]int64{}
	pairs := int64(0)
	for _, b := range list {
		for earlier, count := range counts {
			if CompareBooks(b, earlier) < 0 {
				pairs += count
			}
		}
		counts[b]++
	}
	return pairs, OK
}

// RunsOf returns where runs begin.
func RunsOf(list []Book) ([]int64, int64) {
	if !ValidBooks(list) {
		return nil, ErrInvalid
	}
	return runsOf(list), OK
}

// LongestRun returns the longest run.
func LongestRun(list []Book) (int64, int64, int64) {
	if !ValidBooks(list) {
		return 0, 0, ErrInvalid
	}
	if len(list) == 0 {
		return 0, 0, ErrNotFound
	}
	begins := runsOf(list)
	first, longest := int64(0), int64(0)
	for i, begin := range begins {
		end := int64(len(list))
		if i+1 < len(begins) {
			end = begins[i+1]
		}
		if end-begin > longest {
			first, longest = begin, end-begin
		}
	}
	return first, longest, OK
}

// firstWhere returns the index of the first book that is as asked, or the number of books.
func firstWhere(list []Book, asked func(Book) bool) int64 {
	at := slices.IndexFunc(list, asked)
	if at < 0 {
		at = len(list)
	}
	return int64(at)
}

// PlaceFor returns where a book can be put.
func PlaceFor(list []Book, b Book) (int64, int64) {
	if !ValidBook(b) {
		return 0, ErrInvalid
	}
	if err := checkSorted(list); err != nil {
		return 0, codeOf(err)
	}
	if len(list) == MaxBooks {
		return 0, ErrLimit
	}
	return firstWhere(list, func(other Book) bool { return CompareBooks(b, other) < 0 }), OK
}

// FindBook returns where a book stands.
func FindBook(list []Book, class int64, mark string, volume int64) (int64, int64) {
	if err := checkSorted(list); err != nil {
		return 0, codeOf(err)
	}
	at := firstWhere(list, func(b Book) bool {
		return b.classKey() == class && string(b.Mark[:]) == mark && b.volumeKey() == volume
	})
	if at == int64(len(list)) {
		return 0, ErrNotFound
	}
	return at, OK
}

// ClassRange returns where classes begin and end.
func ClassRange(list []Book, low, high int64) (int64, int64, int64) {
	if err := checkSorted(list); err != nil {
		return 0, 0, codeOf(err)
	}
	if low < 0 || high > 999 || low > high {
		return 0, 0, ErrRange
	}
	from := firstWhere(list, func(b Book) bool { return b.classKey() >= low })
	to := firstWhere(list, func(b Book) bool { return b.classKey() > high })
	return from, to, OK
}

// MergeBooks returns the books of both lists.
func MergeBooks(a, b []Book) ([]Book, int64) {
	if err := checkSorted(a, b); err != nil {
		return nil, codeOf(err)
	}
	if len(a)+len(b) > MaxBooks {
		return nil, ErrLimit
	}
	return inOrder(slices.Concat(a, b), CompareBooks), OK
}

// TotalsOf returns the width, the height and the weight of all books.
func TotalsOf(list []Book) ([3]int64, int64) {
	var totals [3]int64
	if !ValidBooks(list) {
		return totals, ErrInvalid
	}
	for _, b := range list {
		totals[0] += b.wideKey()
		totals[1] = max(totals[1], b.highKey())
		totals[2] += b.weightKey()
	}
	return totals, OK
}

// CountByHundreds returns how many books each hundred of classes has.
func CountByHundreds(list []Book) ([10]int64, int64) {
	var counts [10]int64
	if !ValidBooks(list) {
		return counts, ErrInvalid
	}
	for _, b := range list {
		counts[b.Class/100]++
	}
	return counts, OK
}

// appendNumber puts a number and what follows it behind a text.
func appendNumber(text []byte, n int64, behind string) []byte {
	return append(strconv.AppendInt(text, n, 10), behind...)
}

// appendBook puts the text of a book behind a text.
func appendBook(text []byte, b Book) []byte {
	text = appendNumber(text, b.classKey(), " ")
	text = append(text, b.Mark[:]...)
	text = append(text, ' ')
	text = appendNumber(text, b.volumeKey(), " ")
	text = appendNumber(text, b.wideKey(), "x")
	text = appendNumber(text, b.highKey(), " ")
	return appendNumber(text, b.weightKey(), "")
}

// BookText returns the text of a book.
func BookText(b Book) string {
	if !ValidBook(b) {
		return ""
	}
	return string(appendBook(nil, b))
}

// reader takes a text apart byte by byte. Its first error stays, so that it is looked at once, behind all parts.
type reader struct {
	text string
	at   int
	err  error
}

func (r *reader) atEnd() bool { return r.at == len(r.text) }

// fail notes that the text is none of those that are asked for.
func (r *reader) fail() { r.err = errSyntax }

// letter takes any one byte.
func (r *reader) letter() byte {
	if r.atEnd() {
		r.fail()
		return 0
	}
	r.at++
	return r.text[r.at-1]
}

// skip takes the one byte that has to come next.
func (r *reader) skip(next byte) {
	if r.letter() != next {
		r.fail()
	}
}

// number takes a number in decimal, without leading zeros, that is at most most.
func (r *reader) number(most int64) int64 {
	begin, n := r.at, int64(0)
	// It stops behind a number that is too great already: a long one would overflow.
	for n <= most && !r.atEnd() && within(r.text[r.at], '0', '9') {
		n = n*10 + int64(r.text[r.at]-'0')
		r.at++
	}
	leading := r.at > begin+1 && r.text[begin] == '0'
	if r.at == begin || leading || n > most {
		r.fail()
		return 0
	}
	return n
}

// short takes a number that may be one of a book.
func (r *reader) short() int16 { return int16(r.number(9999)) }

// book takes a valid book.
func (r *reader) book() Book {
	var b Book
	b.Class = r.short()
	r.skip(' ')
	for i := range b.Mark {
		b.Mark[i] = r.letter()
	}
	r.skip(' ')
	b.Volume = r.short()
	r.skip(' ')
	b.Wide = r.short()
	r.skip('x')
	b.High = r.short()
	r.skip(' ')
	b.Weight = r.short()
	if !ValidBook(b) {
		r.fail()
	}
	return b
}

// ReadBook returns the book with the given text.
func ReadBook(text string) (Book, int64) {
	r := reader{text: text}
	b := r.book()
	if !r.atEnd() {
		r.fail()
	}
	if r.err != nil {
		return Book{}, codeOf(r.err)
	}
	return b, OK
}

// BooksText returns the text of a list.
func BooksText(list []Book) string {
	if !ValidBooks(list) {
		return ""
	}
	var text []byte
	for _, b := range list {
		text = append(appendBook(text, b), '\n')
	}
	return string(text)
}

// ReadBooks returns the list with the given text.
func ReadBooks(text string) ([]Book, int64) {
	r := reader{text: text}
	var list []Book
	for r.err == nil && !r.atEnd() {
		list = append(list, r.book())
		r.skip('\n')
		if len(list) > MaxBooks {
			r.fail()
		}
	}
	if r.err != nil {
		return nil, codeOf(r.err)
	}
	return list, OK
}
