package runes_test

import (
	"math"
	"math/rand"
	"strings"
	"testing"

	"concordat/api"
	"concordat/runes"
)

// shape is one of the forms that P1.1 lists: how many bytes, from which rune to which.
type shape struct {
	size     int
	from, to rune
}

var shapes = []shape{{1, 0, 0x7f}, {2, 0x80, 0x7ff}, {3, 0x800, 0xd7ff}, {3, 0xe000, 0xffff}, {4, 0x10000, 0x10ffff}}

// heads is what a first byte has ahead of its bits, by how many bytes there are.
var heads = []byte{0, 0x00, 0xc0, 0xe0, 0xf0}

// written are a rune's bytes, put together by hand; empty, if there is none.
func written(r rune) string {
	for _, f := range shapes {
		if r < f.from || r > f.to {
			continue
		}
		b := make([]byte, f.size)
		for i := f.size - 1; i > 0; i-- {
			b[i] = 0x80 | byte(r&0x3f)
			r >>= 6
		}
		b[0] = heads[f.size] | byte(r)
		return string(b)
	}
	return ""
}

// read is the rune at the beginning of s, found without the package and without the library.
func read(s string) (rune, int, bool) {
	if s == "" {
		return 0, 0, false
	}
	size, r := 0, rune(s[0])
	switch {
	case s[0] < 0x80:
		size = 1
	case s[0]>>5 == 6:
		size, r = 2, r&0x1f
	case s[0]>>4 == 14:
		size, r = 3, r&0x0f
	case s[0]>>3 == 30:
		size, r = 4, r&0x07
	}
	if size == 0 || len(s) < size {
		return 0, 0, false
	}
	for _, b := range []byte(s[1:size]) {
		if b < 0x80 || b > 0xbf {
			return 0, 0, false
		}
		r = r<<6 | rune(b&0x3f)
	}
	if len(written(r)) != size {
		return 0, 0, false
	}
	return r, size, true
}

// count is how many runes s is by read; false, if it is not runes alone.
func count(s string) (int, bool) {
	n := 0
	for s != "" {
		_, size, ok := read(s)
		if !ok {
			return 0, false
		}
		s = s[size:]
		n++
	}
	return n, true
}

func sameNext(t *testing.T, s string, at int) {
	t.Helper()
	r, n, ok := runes.Next(s, at)
	wantRune, wantSize, want := rune(0), 0, false
	if at >= 0 && at < len(s) {
		wantRune, wantSize, want = read(s[at:])
	}
	if r != wantRune || n != wantSize || ok != want {
		t.Errorf("Next(%q, %d) = %x, %d, %v; want %x, %d, %v", s, at, r, n, ok, wantRune, wantSize, want)
	}
}

func sameText(t *testing.T, s string) {
	t.Helper()
	n, ok := count(s)
	if got := runes.Valid(s); got != ok {
		t.Errorf("Valid(%q) = %v", s, got)
	}
	if got := runes.Count(s); got != n {
		t.Errorf("Count(%q) = %d, want %d", s, got, n)
	}
	for at := -1; at <= len(s)+1; at++ {
		sameNext(t, s, at)
	}
}

// P1.1: every rune there is goes there and back, and no other number has bytes.
func TestEveryRune(t *testing.T) {
	for r := rune(-0x100); r <= 0x110100; r++ {
		want := written(r)
		got := runes.Put(r)
		if got != want {
			t.Fatalf("Put(%x) = %q, want %q", r, got, want)
		}
		if want == "" {
			continue
		}
		if x, n, ok := runes.Next("a"+got+"b", 1); x != r || n != len(want) || !ok {
			t.Fatalf("Next of %x: %x, %d, %v", r, x, n, ok)
		}
		if !runes.Valid(got) || runes.Count(got) != 1 {
			t.Fatalf("%x: not one rune", r)
		}
	}
	for _, r := range []rune{math.MinInt32, math.MinInt32 + 'a', -1, 0xd800, 0xdfff, 0x110000, 0x200000, math.MaxInt32} {
		if got := runes.Put(r); got != "" {
			t.Errorf("Put(%x) = %q", r, got)
		}
	}
}

// P1.1: where a rune gets a byte more.
func TestSizes(t *testing.T) {
	for _, c := range []struct {
		r    rune
		text string
	}{
		{0, "\x00"}, {0x7f, "\x7f"}, {0x80, "\xc2\x80"}, {0x7ff, "\xdf\xbf"}, {0x800, "\xe0\xa0\x80"},
		{0xd7ff, "\xed\x9f\xbf"}, {0xe000, "\xee\x80\x80"}, {0xfffd, "\xef\xbf\xbd"}, {0xffff, "\xef\xbf\xbf"},
		{0x10000, "\xf0\x90\x80\x80"}, {0x10ffff, "\xf4\x8f\xbf\xbf"},
	} {
		if got := runes.Put(c.r); got != c.text {
			t.Errorf("Put(%x) = %q", c.r, got)
		}
		if r, n, ok := runes.Next(c.text, 0); r != c.r || n != len(c.text) || !ok {
			t.Errorf("Next(%q, 0) = %x, %d, %v", c.text, r, n, ok)
		}
		for cut := 1; cut < len(c.text); cut++ {
			if r, n, ok := runes.Next(c.text[:cut], 0); r != 0 || n != 0 || ok {
				t.Errorf("Next(%q, 0) = %x, %d, %v", c.text[:cut], r, n, ok)
			}
			if runes.Valid(c.text[:cut]) || runes.Valid(c.text[cut:]) {
				t.Errorf("%q cut at %d is told to be runes", c.text, cut)
			}
		}
	}
}

// P1.1: what is not a rune in its shortest form, alone and among runes.
func TestNoRunes(t *testing.T) {
	for _, s := range []string{
		"\x80", "\xbf", "\xff", "\xfe", "\xc0", "\xf8\x88\x80\x80\x80", // no first byte
		"\xc0\x80", "\xc1\xbf", "\xe0\x80\x80", "\xe0\x9f\xbf", "\xf0\x80\x80\x80", "\xf0\x8f\xbf\xbf", // longer than needed
		"\xed\xa0\x80", "\xed\xaf\xbf", "\xed\xb0\x80", "\xed\xbf\xbf", // d800 to dfff
		"\xf4\x90\x80\x80", "\xf5\x80\x80\x80", "\xf7\xbf\xbf\xbf", // above 10ffff
		"\xc3\x7f", "\xc3\xc0", "\xe2\x82\x7f", "\xe2\x7f\xac", "\xf0\x9d\x84\xc0", "\xf0\x9d\x7f\x9e", // behind the first not from 80 to bf
		"\xef\xbf", "\xef\xbf\xc0", // as the replacement begins
	} {
		if r, n, ok := runes.Next(s, 0); r != 0 || n != 0 || ok {
			t.Errorf("Next(%q, 0) = %x, %d, %v", s, r, n, ok)
		}
		for _, text := range []string{s, "a" + s, s + "a", "�" + s, s + "�", "aß€𝄞" + s + "𝄞"} {
			if runes.Valid(text) || runes.Count(text) != 0 {
				t.Errorf("%q: Valid %v, Count %d", text, runes.Valid(text), runes.Count(text))
			}
			if runes.Name(text) {
				t.Errorf("Name(%q)", text)
			}
			sameText(t, text)
		}
	}
}

// P1.1: places outside of the text, and within a rune.
func TestPlaces(t *testing.T) {
	s := "aß€𝄞"
	for at, want := range map[int]rune{0: 'a', 1: 'ß', 3: '€', 6: '𝄞'} {
		if r, n, ok := runes.Next(s, at); r != want || n != len(string(want)) || !ok {
			t.Errorf("Next at %d = %x, %d, %v", at, r, n, ok)
		}
	}
	for _, at := range []int{math.MinInt, -1, 2, 4, 5, 7, 8, 9, 10, 11, math.MaxInt} {
		if r, n, ok := runes.Next(s, at); r != 0 || n != 0 || ok {
			t.Errorf("Next at %d = %x, %d, %v", at, r, n, ok)
		}
	}
	for _, at := range []int{math.MinInt, -1, 0, 1, math.MaxInt} {
		if r, n, ok := runes.Next("", at); r != 0 || n != 0 || ok {
			t.Errorf("Next of nothing at %d = %x, %d, %v", at, r, n, ok)
		}
	}
}

// P1.1: the rune fffd stands in a text as others do.
func TestReplacement(t *testing.T) {
	s := "�a�"
	if !runes.Valid(s) || runes.Count(s) != 3 || runes.Count("��") != 2 {
		t.Error(runes.Valid(s), runes.Count(s))
	}
	for _, at := range []int{0, 4} {
		if r, n, ok := runes.Next(s, at); r != 0xfffd || n != 3 || !ok {
			t.Errorf("Next at %d = %x, %d, %v", at, r, n, ok)
		}
	}
}

// P1.1: texts without anything, and ordinary ones.
func TestCounts(t *testing.T) {
	for s, want := range map[string]int{"": 0, "a": 1, "\x00": 1, "\x00\x00": 2, "größe": 5, "aß€𝄞": 4, "λογος": 5, strings.Repeat("𝄞", 1000): 1000} {
		if !runes.Valid(s) || runes.Count(s) != want {
			t.Errorf("%q: Valid %v, Count %d", s, runes.Valid(s), runes.Count(s))
		}
	}
}

// P1.1: all texts of two bytes, and of up to four bytes that stand at an edge, against a decoder of the test's own.
func TestEveryShortText(t *testing.T) {
	for a := range 256 {
		sameText(t, string([]byte{byte(a)}))
		for b := range 256 {
			sameText(t, string([]byte{byte(a), byte(b)}))
		}
	}
	edges := []byte{0x00, 0x41, 0x7f, 0x80, 0x8f, 0x90, 0x9f, 0xa0, 0xbd, 0xbf, 0xc0, 0xc1, 0xc2, 0xdf, 0xe0, 0xe1, 0xec, 0xed, 0xee, 0xef, 0xf0, 0xf1, 0xf3, 0xf4, 0xf5, 0xf8, 0xff}
	for _, a := range edges {
		for _, b := range edges {
			for _, c := range edges {
				sameText(t, string([]byte{a, b, c}))
				for _, d := range edges {
					s := string([]byte{a, b, c, d})
					n, ok := count(s)
					if runes.Valid(s) != ok || runes.Count(s) != n {
						t.Errorf("%q: Valid %v, Count %d, want %d", s, runes.Valid(s), runes.Count(s), n)
					}
					sameNext(t, s, 0)
				}
			}
		}
	}
}

// P1.1: runes and other bytes mixed up, from a fixed seed.
func TestMixedTexts(t *testing.T) {
	dice := rand.New(rand.NewSource(1))
	for range 2000 {
		var b []byte
		for range dice.Intn(8) {
			if f := shapes[dice.Intn(len(shapes))]; dice.Intn(8) > 0 {
				b = append(b, written(f.from+rune(dice.Intn(int(f.to-f.from)+1)))...)
			} else {
				b = append(b, byte(dice.Intn(256)))
			}
		}
		sameText(t, string(b))
	}
}

// P1.2: letters and digits, rune by rune, by the document's list.
func TestEveryLetterAndDigit(t *testing.T) {
	letters := map[rune]int{'_': 1}
	for _, f := range []shape{{1, 'a', 'z'}, {1, 'A', 'Z'}, {2, 0xc0, 0x24f}, {2, 0x391, 0x3c9}} {
		for r := f.from; r <= f.to; r++ {
			letters[r] = 1
		}
	}
	for _, gap := range []rune{0xd7, 0xf7, 0x3a2} {
		delete(letters, gap)
	}
	for r := rune(-0x100); r <= 0x110100; r++ {
		if want := letters[r] == 1; runes.Letter(r) != want {
			t.Errorf("Letter(%x) = %v", r, !want)
		}
		if want := strings.ContainsRune("0123456789", r) && r >= 0; runes.Digit(r) != want {
			t.Errorf("Digit(%x) = %v", r, !want)
		}
	}
	for _, r := range []rune{math.MinInt32, math.MinInt32 + 'a', math.MaxInt32} {
		if runes.Letter(r) || runes.Digit(r) {
			t.Errorf("%x", r)
		}
	}
}

// P1.2: the edges of letters and digits, written out.
func TestEdgesOfLetters(t *testing.T) {
	for _, r := range []rune{'a', 'z', 'A', 'Z', '_', 0xc0, 0xd6, 0xd8, 0xf6, 0xf8, 0x24f, 0x391, 0x3a1, 0x3a3, 0x3c9} {
		if !runes.Letter(r) || runes.Digit(r) {
			t.Errorf("%x is a letter, and no digit", r)
		}
	}
	for _, r := range []rune{'a' - 1, 'z' + 1, 'A' - 1, 'Z' + 1, '-', ' ', 0, 0xbf, 0xd7, 0xf7, 0x250, 0x390, 0x3a2, 0x3ca, '/', ':', 0x660, 0xff10} {
		if runes.Letter(r) || runes.Digit(r) {
			t.Errorf("%x is neither letter nor digit", r)
		}
	}
	for r := '0'; r <= '9'; r++ {
		if runes.Letter(r) || !runes.Digit(r) {
			t.Errorf("%x is a digit, and no letter", r)
		}
	}
}

var keys = []string{"schema", "message", "enum", "call", "returns", "reserved", "optional", "repeated", "int32", "int64", "bool", "text", "bytes"}

// P1.2: each of the thirteen keys, and words that are nearly one.
func TestKeys(t *testing.T) {
	for _, k := range keys {
		if !runes.Key(k) || runes.Name(k) {
			t.Errorf("%s: Key %v, Name %v", k, runes.Key(k), runes.Name(k))
		}
		near := []string{k + "s", k + "_", "_" + k, k + "1", k[:len(k)-1], k[1:], strings.ToUpper(k), strings.ToUpper(k[:1]) + k[1:]}
		for _, s := range near {
			if runes.Key(s) || !runes.Name(s) {
				t.Errorf("%s: Key %v, Name %v", s, runes.Key(s), runes.Name(s))
			}
		}
		for _, s := range []string{" " + k, k + " ", k + "\x00", k + ";"} {
			if runes.Key(s) || runes.Name(s) {
				t.Errorf("%q: Key %v, Name %v", s, runes.Key(s), runes.Name(s))
			}
		}
	}
	for _, s := range []string{"", "a", "int", "int8", "int16", "uint32", "string", "double", "one", "größe", "\xff"} {
		if runes.Key(s) {
			t.Errorf("Key(%q)", s)
		}
	}
}

// P1.2: ordinary names, and texts that are none.
func TestNames(t *testing.T) {
	for _, s := range []string{"a", "Z", "_", "__", "_9", "a9", "a_9b", "größe", "Äß", "ÀÖØöøɏ", "λογος", "ΑΡΣω", "x0123456789"} {
		if !runes.Name(s) {
			t.Errorf("Name(%q) = false", s)
		}
	}
	for _, s := range []string{"", "9", "9a", "0_", "a b", " a", "a ", "a-b", "a.b", "a\n", "\x00", "a\x00", "λόγος", "a×b", "×", "a÷", "aɐ", "Ͱ", "\u0390", "\u03ca", "a\u03a2", "a€", "a𝄞", "a٣", "�", "a�", "\xff", "a\xff", "a\xc3", "\xc0\xe1"} {
		if runes.Name(s) {
			t.Errorf("Name(%q) = true", s)
		}
	}
}

// P1.2: each rune as the first one of a name, and behind one.
func TestEveryRuneInNames(t *testing.T) {
	for r := rune(0); r <= 0x10ffff; r++ {
		s := written(r)
		if s == "" {
			continue
		}
		if runes.Name(s) != runes.Letter(r) {
			t.Errorf("Name of %x alone", r)
		}
		if runes.Name("a"+s) != (runes.Letter(r) || runes.Digit(r)) {
			t.Errorf("Name of a and %x", r)
		}
	}
}

// P1.2: names of MaxName runes, and of one more: runes count, not bytes.
func TestLongNames(t *testing.T) {
	for _, s := range []string{"a", "_", "ß", "ω", "ɏ"} {
		for n := 1; n <= api.MaxName; n++ {
			if !runes.Name(strings.Repeat(s, n)) {
				t.Errorf("Name of %d times %s = false", n, s)
			}
		}
		for _, n := range []int{api.MaxName + 1, api.MaxName + 2, 2 * api.MaxName, 256, 1 << 16} {
			if runes.Name(strings.Repeat(s, n)) {
				t.Errorf("Name of %d times %s = true", n, s)
			}
		}
	}
	nines := strings.Repeat("9", api.MaxName-1)
	if !runes.Name("a"+nines) || runes.Name("a"+nines+"9") || runes.Name("9"+nines) {
		t.Error("names that end with digits")
	}
	long := strings.Repeat("ß", api.MaxName)
	if runes.Name(long+"\xff") || runes.Name(long+" ") || runes.Name(long+"�") {
		t.Error("something else behind a name of MaxName runes")
	}
}
