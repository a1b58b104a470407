package tests

import (
	"fmt"
	"slices"
	"strings"
	"testing"

	"loop.example/g01326/impl"
)

// wantLabel checks all that is told of a text that is the label of a book.
func wantLabel(t *testing.T, b impl.Book, label string) {
	t.Helper()
	wantResults(t, "label", all(impl.LabelOf(b)), label)
	wantResults(t, label, all(impl.CheckLabel(label)), true)
	wantResults(t, label, all(impl.ReadLabel(label)), int64(b.Class), string(b.Mark[:]), int64(b.Volume), code(impl.OK))
}

// wantNoLabel checks that a text is no label.
func wantNoLabel(t *testing.T, text string) {
	t.Helper()
	name := fmt.Sprintf("%q", text)
	wantResults(t, name, all(impl.CheckLabel(text)), false)
	wantResults(t, name, all(impl.ReadLabel(text)), int64(0), "", int64(0), code(impl.ErrSyntax))
}

func TestLabelSize(t *testing.T) {
	if impl.LabelSize != 9 {
		t.Error("LabelSize", impl.LabelSize)
	}
}

func TestLabelOf(t *testing.T) {
	for label, b := range map[string]impl.Book{
		"513euc013": labelledOf(513, "euc", 1),
		"100aaa013": labelledOf(100, "aaa", 1),
		"000aaa012": labelledOf(0, "aaa", 1),
		"999zzz991": labelledOf(999, "zzz", 99),
		"007abc300": labelledOf(7, "abc", 30),
		"040xyz092": labelledOf(40, "xyz", 9),
	} {
		wantLabel(t, b, label)
	}
	for class := range 1000 {
		b := labelledOf(class, "mno", 1+class%99)
		wantLabel(t, b, slowLabel(b))
	}
	for volume := 1; volume < 100; volume++ {
		b := labelledOf(870, "qed", volume)
		wantLabel(t, b, slowLabel(b))
	}
	for place := range 3 {
		for letter := byte('a'); letter <= 'z'; letter++ {
			b := labelledOf(121, withByte("hkt", place, letter), 66)
			wantLabel(t, b, slowLabel(b))
		}
	}
	r := newRandom()
	for range 3000 {
		b := anyLabelled(r)
		wantLabel(t, b, slowLabel(b))
	}
}

// TestLabelOfLookalikes: a label does not tell Wide, High or Weight.
func TestLabelOfLookalikes(t *testing.T) {
	for _, b := range lookalikes(100) {
		wantLabel(t, b, "100aaa013")
	}
	for _, b := range booksInside() {
		wantLabel(t, b, slowLabel(b))
	}
	for _, b := range booksOutside() {
		wantResults(t, fmt.Sprint(b), all(impl.LabelOf(b)), "")
	}
}

// TestChangedDigits is of promise 14: a label in which a digit has been changed, to another digit or to any other byte, is no label.
func TestChangedDigits(t *testing.T) {
	r := newRandom()
	list := append(booksInside(), labelledOf(513, "euc", 1), labelledOf(0, "zza", 10), labelledOf(909, "aaz", 90))
	for range 300 {
		list = append(list, anyLabelled(r))
	}
	for _, b := range list {
		label := impl.LabelOf(b)
		wantLabel(t, b, label)
		for _, at := range []int{0, 1, 2, 6, 7, 8} {
			for other := range 256 {
				if byte(other) != label[at] {
					wantNoLabel(t, withByte(label, at, byte(other)))
				}
			}
		}
	}
}

// TestWrongCheckDigits is of promise 14, for each check digit: all others are wrong.
func TestWrongCheckDigits(t *testing.T) {
	seen := map[byte]bool{}
	for volume := 1; volume <= 20; volume++ {
		front := slowLabel(labelledOf(513, "euc", volume))[:8]
		right := 0
		for digit := byte('0'); digit <= '9'; digit++ {
			text := front + string(digit)
			if text == slowLabel(labelledOf(513, "euc", volume)) {
				seen[digit] = true
				right++
				continue
			}
			wantNoLabel(t, text)
		}
		if right != 1 {
			t.Errorf("%s has %d check digits", front, right)
		}
	}
	if len(seen) != 10 {
		t.Errorf("only the check digits %v", seen)
	}
}

// TestOtherBytes has any byte in each place of labels, letters too, which the check digit does not always tell apart.
func TestOtherBytes(t *testing.T) {
	for _, label := range []string{"513euc013", "100aaa013", "000aaa012", "999zzz991"} {
		for at := range 9 {
			for other := range 256 {
				text := withByte(label, at, byte(other))
				wantResults(t, fmt.Sprintf("%q", text), all(impl.CheckLabel(text)), slowIsLabel(text))
				if !slowIsLabel(text) {
					wantNoLabel(t, text)
				}
			}
		}
	}
	// In other places digits and letters have the right values, as have capital ones if they are made small.
	for _, text := range []string{"513EUC013", "513Euc013", "513eUc013", "513euC013", "e13euc013", "5a3euc013", "51ceuc013", "5135uc013", "513eu3013", "513euc0a3", "513euca13", "513euc01c",
		"+13euc013", "-13euc013", " 13euc013", "513euc 13", "513euc+13", "513euc-13", "513eu.013", "513euc01\x03", "513e\xf5c013", "\x05\x01\x03euc013", "012345678", "abcdefghi"} {
		wantNoLabel(t, text)
	}
}

func TestLabelsOfOtherLengths(t *testing.T) {
	for length := range 20 {
		long := strings.Repeat("513euc013", 3)
		for _, text := range []string{long[:length], strings.Repeat("0", length), strings.Repeat("a", length), long[9-min(length, 9) : 9]} {
			if text == "513euc013" {
				continue
			}
			wantNoLabel(t, text)
			wantedCode := code(impl.ErrSyntax)
			if length == 9 {
				wantedCode = impl.OK
			}
			near, cd := impl.NearLabels(text)
			swapped, other := impl.SwappedLabels(text)
			wantResults(t, text, all(cd, other), wantedCode, wantedCode)
			if length != 9 {
				wantResults(t, text, all(near, swapped), []string(nil), []string(nil))
			}
		}
	}
	for _, text := range []string{"513euc013 ", " 513euc013", "513euc0130", "0513euc013", "513euc013\n", "513euc01", "13euc013", "513euc0", "51euc013", "513eu013", "513euc13", "513\u00e9uc013"} {
		wantNoLabel(t, text)
		wantResults(t, text, all(impl.NearLabels(text)), []string(nil), code(impl.ErrSyntax))
		wantResults(t, text, all(impl.SwappedLabels(text)), []string(nil), code(impl.ErrSyntax))
	}
}

// TestVolumeOfNothing: a text with the Volume 0 is no label, though its check digit may be right.
func TestVolumeOfNothing(t *testing.T) {
	for _, text := range []string{"513euc004", "100aaa004", "000aaa003", "999zzz007"} {
		if text[8:] != slowCheckDigit(text[:8]) {
			t.Fatalf("%s: the check digit is %s", text, slowCheckDigit(text[:8]))
		}
		wantNoLabel(t, text)
		// Another volume has another check digit, and with another byte elsewhere it is still 0.
		wantResults(t, text, all(impl.NearLabels(text)), []string(nil), code(impl.OK))
	}
	r := newRandom()
	for range 200 {
		front := slowLabel(anyLabelled(r))[:6] + "00"
		for digit := byte('0'); digit <= '9'; digit++ {
			wantNoLabel(t, front+string(digit))
		}
	}
}

func TestNearLabels(t *testing.T) {
	type asked struct {
		text string
		near []string
	}
	for _, a := range []asked{
		// Many: one for each digit, two or three for each letter.
		{"513euc018", []string{"013euc018", "513efc018", "513epc018", "513euc013", "513euc068", "513euc518", "513euh018", "513eur018", "513ezc018", "513juc018", "513tuc018", "518euc018", "563euc018"}},
		// A label itself: letters that are 10 or 20 apart have the same check digit, and the text itself does not differ.
		{"513euc013", []string{"513eac013", "513ekc013", "513eum013", "513euw013", "513ouc013", "513yuc013"}},
		// One: only this digit can have been another one.
		{"x13euc013", []string{"513euc013"}}, {"5-3euc013", []string{"513euc013"}}, {"51\xffeuc013", []string{"513euc013"}},
		{"513euc.13", []string{"513euc013"}}, {"513euc0E3", []string{"513euc013"}}, {"513euc01 ", []string{"513euc013"}},
		// A byte that is no letter: all letters with the same check digit.
		{"513Euc013", []string{"513euc013", "513ouc013", "513yuc013"}}, {"513e0c013", []string{"513eac013", "513ekc013", "513euc013"}}, {"513eu\x00013", []string{"513euc013", "513eum013", "513euw013"}},
		// None: two bytes have to be others, or the Volume would be 0.
		{"x13Euc013", nil}, {"513eu..13", nil}, {"513EUC013", nil}, {"         ", nil}, {"\xff\xff\xff\xff\xff\xff\xff\xff\xff", nil}, {"abcdefghi", nil},
		{"513e\u00e9013", nil}, {"513euc0x4", nil}, {"513eucx04", nil},
		// With the Volume 0 only the volume can have been another one.
		{"513euc005", []string{"513euc095", "513euc305"}},
	} {
		wantResults(t, fmt.Sprintf("%q", a.text), all(impl.NearLabels(a.text)), a.near, code(impl.OK))
		wantResults(t, fmt.Sprintf("slow %q", a.text), all(slowNear(a.text)), a.near)
	}
	r := newRandom()
	counts := map[int]int{}
	for round := range 1000 {
		text := slowLabel(anyLabelled(r))
		for range round % 4 {
			text = withByte(text, r.IntN(9), pickOf[byte](r, '0', '5', '9', 'a', 'm', 'z', 'A', ' ', 0, 0xff))
		}
		near := slowNear(text)
		wantResults(t, fmt.Sprintf("%q", text), all(impl.NearLabels(text)), near, code(impl.OK))
		counts[min(len(near), 2)]++
	}
	if counts[0] < 100 || counts[1] < 100 || counts[2] < 100 {
		t.Errorf("none, one, or more near labels: %v", counts)
	}
}

func TestSwappedLabels(t *testing.T) {
	type asked struct {
		text    string
		swapped []string
	}
	for _, a := range []asked{
		{"531euc013", []string{"513euc013", "531euc103", "531uec013"}},
		// A label of which digits are 5 apart, so that the exchange has the same check digit; all others are equal, or become none.
		{"160aaa011", []string{"610aaa011"}}, {"610aaa011", []string{"160aaa011"}},
		{"513euc013", []string{"513euc031"}}, {"513euc031", []string{"513euc013"}},
		// A digit goes to the letters, or a letter to the digits; all bytes equal.
		{"51e3uc013", []string{"513euc013"}}, {"513eu0c13", []string{"513euc013"}}, {"000000000", nil}, {"aaaaaaaaa", nil},
		{"\xff\xff\xff\xff\xff\xff\xff\xff\xff", nil}, {"513e\u00e9013", nil}, {"513EUC031", nil},
		// 513euc004 has the right check digit, but the Volume 0.
		{"513euc040", nil},
	} {
		wantResults(t, fmt.Sprintf("%q", a.text), all(impl.SwappedLabels(a.text)), a.swapped, code(impl.OK))
		wantResults(t, fmt.Sprintf("slow %q", a.text), all(slowSwapped(a.text)), a.swapped)
	}
	r := newRandom()
	counts := map[int]int{}
	for round := range 4000 {
		b := anyLabelled(r)
		if round%2 == 0 {
			b = labelledOf(r.IntN(2)*500+r.IntN(2)*50+r.IntN(2)*5, strings.Repeat("a", 1+r.IntN(2))+"fb"[:1+r.IntN(2)]+"k", 1+r.IntN(99))
		}
		text := slowLabel(b)
		if round%3 > 0 {
			at := 1 + r.IntN(8)
			text = text[:at-1] + text[at:at+1] + text[at-1:at] + text[at+1:]
		}
		if round%7 == 0 {
			text = withByte(text, r.IntN(9), pickOf[byte](r, 'A', ' ', 0xff))
		}
		swapped := slowSwapped(text)
		wantResults(t, fmt.Sprintf("%q", text), all(impl.SwappedLabels(text)), swapped, code(impl.OK))
		counts[min(len(swapped), 2)]++
		if slices.Contains(swapped, text) {
			t.Errorf("%q comes of itself", text)
		}
	}
	if counts[0] < 100 || counts[1] < 100 || counts[2] < 100 {
		t.Errorf("none, one, or more exchanges: %v", counts)
	}
}
