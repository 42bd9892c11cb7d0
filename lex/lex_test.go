package lex_test

import (
	"math/rand"
	"regexp"
	"slices"
	"strconv"
	"strings"
	"testing"
	"unicode/utf8"

	"concordat/api"
	"concordat/lex"
)

// What the chapter lists, as patterns: the tests' own reader is made of them,
// without the package and without package runes.
const (
	letterClass = `a-zA-Z_\x{c0}-\x{d6}\x{d8}-\x{f6}\x{f8}-\x{24f}\x{391}-\x{3a1}\x{3a3}-\x{3c9}`
	nonePattern = `^(?:[\x20\x09\x0d\x0a]|//[^\x0a]*)+`
)

var (
	none  = regexp.MustCompile(nonePattern)
	kinds = []struct {
		kind int
		p    *regexp.Regexp
	}{
		{api.TokName, regexp.MustCompile(`^[` + letterClass + `][` + letterClass + `0-9]*`)},
		{api.TokNumber, regexp.MustCompile(`^[0-9]+`)},
		{api.TokSign, regexp.MustCompile(`^[{}();=,]`)},
	}
)

// answer is what Tokens answers.
type answer struct {
	l  []api.Token
	at int
	e  api.Errno
}

// read is what Tokens is to answer, by the patterns.
func read(s string) answer {
	if len(s) > api.MaxSource {
		return answer{e: api.ErrBig}
	}
	var l []api.Token
	for at := 0; at < len(s); {
		if n := len(none.FindString(s[at:])); n > 0 {
			at += n
			continue
		}
		text, kind := "", 0
		for _, k := range kinds {
			if text = k.p.FindString(s[at:]); text != "" {
				kind = k.kind
				break
			}
		}
		if text == "" {
			if r, n := utf8.DecodeRuneInString(s[at:]); r == utf8.RuneError && n == 1 {
				return answer{nil, at, api.ErrText}
			}
			return answer{nil, at, api.ErrSyntax}
		}
		l = append(l, api.Token{Kind: kind, Text: text, At: at})
		at += len(text)
	}
	return answer{l: l}
}

func short(s string) string {
	if len(s) > 100 {
		return strconv.Quote(s[:100]) + ".."
	}
	return strconv.Quote(s)
}

// same ends the test, if Tokens(s) is not want.
func same(t *testing.T, s string, want answer) {
	t.Helper()
	l, at, e := lex.Tokens(s)
	if at != want.at || e != want.e {
		t.Fatalf("Tokens(%s): %d pieces, %d, %v; want %d, %v", short(s), len(l), at, e, want.at, want.e)
	}
	if slices.Equal(l, want.l) {
		return
	}
	for i := range min(len(l), len(want.l)) {
		if l[i] != want.l[i] {
			t.Fatalf("Tokens(%s): piece %d is %v, want %v", short(s), i, l[i], want.l[i])
		}
	}
	t.Fatalf("Tokens(%s): %d pieces, want %d", short(s), len(l), len(want.l))
}

// is ends the test, if Tokens(s) is not these pieces.
func is(t *testing.T, s string, want ...api.Token) {
	t.Helper()
	same(t, s, answer{l: want})
	same(t, s, read(s))
}

// refused ends the test, if Tokens(s) does not tell this error at this place.
func refused(t *testing.T, s string, at int, e api.Errno) {
	t.Helper()
	same(t, s, answer{at: at, e: e})
	same(t, s, read(s))
}

func word(at int, s string) api.Token { return api.Token{Kind: api.TokName, Text: s, At: at} }

func number(at int, s string) api.Token { return api.Token{Kind: api.TokNumber, Text: s, At: at} }

func sign(at int, s string) api.Token { return api.Token{Kind: api.TokSign, Text: s, At: at} }

// P5.1: the chapter's example, and a schema's text.
func TestOrdinary(t *testing.T) {
	is(t, "a=1;", word(0, "a"), sign(1, "="), number(2, "1"), sign(3, ";"))
	is(t, "schema a; message m { int32 x = 1; }",
		word(0, "schema"), word(7, "a"), sign(8, ";"),
		word(10, "message"), word(18, "m"), sign(20, "{"),
		word(22, "int32"), word(28, "x"), sign(30, "="), number(32, "1"), sign(33, ";"), sign(35, "}"))
	is(t, "call f(größe)returns(b);\n// the end",
		word(0, "call"), word(5, "f"), sign(6, "("), word(7, "größe"), sign(14, ")"),
		word(15, "returns"), sign(22, "("), word(23, "b"), sign(24, ")"), sign(25, ";"))
	is(t, "reserved 1,22 , 500;",
		word(0, "reserved"), number(9, "1"), sign(10, ","), number(11, "22"), sign(14, ","), number(16, "500"), sign(19, ";"))
}

// P5.1: texts in which nothing stands.
func TestNothing(t *testing.T) {
	for _, s := range []string{
		"", " ", "\t", "\r", "\n", " \t\r\n", "\n\r\t ", "\r\n\r\n",
		"//", "//\n", "///", "////", "// a", "// a\n", "//\n//", "//\n\n//\n", " // a // b\n ", "//\r", "//\r//", "//a=1;", "//\xff", "//\xc3\n",
		"//\r\n// a\r\n", "//-+*\x00\v\n",
	} {
		is(t, s)
	}
}

// P5.1: each byte alone, behind a word, behind a number, and among others.
func TestEveryByte(t *testing.T) {
	for i := range 256 {
		b := string([]byte{byte(i)})
		switch {
		case strings.Contains(" \t\r\n", b):
			is(t, b)
			is(t, "a"+b+"b", word(0, "a"), word(2, "b"))
			is(t, "1"+b+"2", number(0, "1"), number(2, "2"))
			same(t, "//"+b+"b", read("//"+b+"b"))
		case strings.Contains("{}();=,", b):
			is(t, b, sign(0, b))
			is(t, b+b, sign(0, b), sign(1, b))
			is(t, "a"+b+"2", word(0, "a"), sign(1, b), number(2, "2"))
			is(t, "//"+b)
		case 'a' <= i && i <= 'z' || 'A' <= i && i <= 'Z' || i == '_':
			is(t, b, word(0, b))
			is(t, "a"+b+"b", word(0, "a"+b+"b"))
			is(t, "1"+b+"2", number(0, "1"), word(1, b+"2"))
		case '0' <= i && i <= '9':
			is(t, b, number(0, b))
			is(t, "a"+b+"b", word(0, "a"+b+"b"))
			is(t, "1"+b+"2", number(0, "1"+b+"2"))
		default:
			e := api.ErrText
			if i < 0x80 {
				e = api.ErrSyntax
			}
			for _, ahead := range []string{"", "a", "1", ";", " ", "//\n", "a b;\n", "größe=12;// ä \xff\n"} {
				refused(t, ahead+b, len(ahead), e)
				refused(t, ahead+b+" a", len(ahead), e)
			}
			is(t, "//"+b)
			is(t, "//"+b+"\na", word(4, "a"))
		}
	}
}

// P5.1: the one of the four blanks that ends a comment is the byte 10.
func TestCommentEnds(t *testing.T) {
	is(t, "//a\nb", word(4, "b"))
	is(t, "//a\rb\tc d")
	is(t, "//a\r\nb", word(5, "b"))
	is(t, "a//b", word(0, "a"))
	is(t, "a//b\n", word(0, "a"))
	is(t, "a//b\nc", word(0, "a"), word(5, "c"))
	is(t, "1//2\n3", number(0, "1"), number(5, "3"))
	is(t, "=//=\n=", sign(0, "="), sign(5, "="))
	is(t, "a//b//c\nd", word(0, "a"), word(8, "d"))
	is(t, "a///\nd", word(0, "a"), word(5, "d"))
	is(t, "a//\n//\nd", word(0, "a"), word(7, "d"))
	is(t, "// \xff\xc3 \xed\xa0\x80\n\xc3\xb6", word(10, "ö"))
	is(t, "a//\xc3", word(0, "a"))
	is(t, "a//\xc3\nb", word(0, "a"), word(5, "b"))
}

// P5.1: a lone slash begins nothing, whatever stands behind it.
func TestLoneSlash(t *testing.T) {
	for s, at := range map[string]int{
		"/": 0, "/a": 0, "/ /": 0, "/\n/": 0, "/*a*/": 0, "/\xff": 0, "a/": 1, "a/b": 1, "a / b": 2, "1/2": 1, ";/": 1,
		"//\n/": 3, "// / \n/": 6, "//a\n/b//": 4, "\n/": 1, "\\": 0, "a\\\\b": 1, "-/": 0,
	} {
		refused(t, s, at, api.ErrSyntax)
	}
}

// P5.1: words and numbers, side by side.
func TestWordsAndNumbers(t *testing.T) {
	is(t, "a b", word(0, "a"), word(2, "b"))
	is(t, "ab", word(0, "ab"))
	is(t, "a1", word(0, "a1"))
	is(t, "1a", number(0, "1"), word(1, "a"))
	is(t, "1_", number(0, "1"), word(1, "_"))
	is(t, "12ab9 _", number(0, "12"), word(2, "ab9"), word(6, "_"))
	is(t, "1a2b3", number(0, "1"), word(1, "a2b3"))
	is(t, "1 2", number(0, "1"), number(2, "2"))
	is(t, "007", number(0, "007"))
	is(t, "0", number(0, "0"))
	is(t, strings.Repeat("9", 40), number(0, strings.Repeat("9", 40)))
	is(t, strings.Repeat("ab1", 30), word(0, strings.Repeat("ab1", 30)))
	is(t, "_9", word(0, "_9"))
	is(t, "9ö9", number(0, "9"), word(1, "ö9"))
	is(t, "0x1f", number(0, "0"), word(1, "x1f"))
}

// P5.1: words of letters of more than one byte; a place counts bytes.
func TestLongLetters(t *testing.T) {
	is(t, "größe", word(0, "größe"))
	is(t, "größe λ=ä", word(0, "größe"), word(8, "λ"), sign(10, "="), word(11, "ä"))
	is(t, "ÀÖØöøɏ", word(0, "ÀÖØöøɏ"))
	is(t, "ΑΡΣω1", word(0, "ΑΡΣω1"))
	refused(t, "a×b", 1, api.ErrSyntax)
	refused(t, "aö÷", 3, api.ErrSyntax)
	refused(t, "λόγος", 2, api.ErrSyntax)
	refused(t, "aɐ", 1, api.ErrSyntax)
	refused(t, "a\u03a2", 1, api.ErrSyntax)
	refused(t, "a€", 1, api.ErrSyntax)
	refused(t, "1𝄞", 1, api.ErrSyntax)
	refused(t, "a\ufffd", 1, api.ErrSyntax)
	refused(t, "a\u00a0b", 1, api.ErrSyntax)
	refused(t, "a\u2028b", 1, api.ErrSyntax)
	refused(t, "a \ufeff", 2, api.ErrSyntax)
	refused(t, "a٣", 1, api.ErrSyntax)
	refused(t, "１", 0, api.ErrSyntax)
}

// P5.1: keys are words as others are.
func TestKeys(t *testing.T) {
	for _, k := range []string{"schema", "message", "enum", "call", "returns", "reserved", "optional", "repeated", "int32", "int64", "bool", "text", "bytes"} {
		for _, s := range []string{k, k + "s", k + "_", "_" + k, k + "1", k + "ö", strings.ToUpper(k), k[1:]} {
			is(t, s, word(0, s))
			is(t, s+"{"+s, word(0, s), sign(len(s), "{"), word(len(s)+1, s))
		}
		is(t, "1"+k, number(0, "1"), word(1, k))
		is(t, "//"+k)
	}
}

// P5.1: signs stand alone, side by side too.
func TestSigns(t *testing.T) {
	is(t, "{}();=,", sign(0, "{"), sign(1, "}"), sign(2, "("), sign(3, ")"), sign(4, ";"), sign(5, "="), sign(6, ","))
	is(t, "==", sign(0, "="), sign(1, "="))
	is(t, "a{b}c", word(0, "a"), sign(1, "{"), word(2, "b"), sign(3, "}"), word(4, "c"))
	for _, b := range "[]<>:.!\"#$%&'*+-?@\\^`|~\x00\x01\v\f\x1b\x7f" {
		refused(t, string(b), 0, api.ErrSyntax)
		refused(t, "a="+string(b)+"1", 2, api.ErrSyntax)
		is(t, "//"+string(b)+"\n1", number(4, "1"))
	}
}

// P5.1: every rune alone, and behind a word, by the document's lists.
func TestEveryRune(t *testing.T) {
	letter := func(r rune) bool {
		return 'a' <= r && r <= 'z' || 'A' <= r && r <= 'Z' || r == '_' ||
			0xc0 <= r && r <= 0x24f && r != 0xd7 && r != 0xf7 || 0x391 <= r && r <= 0x3c9 && r != 0x3a2
	}
	for r := rune(0); r <= utf8.MaxRune; r++ {
		if 0xd800 <= r && r <= 0xdfff {
			continue
		}
		s := string(r)
		switch {
		case letter(r):
			same(t, s, answer{l: []api.Token{word(0, s)}})
			same(t, "a"+s, answer{l: []api.Token{word(0, "a"+s)}})
		case '0' <= r && r <= '9':
			same(t, s, answer{l: []api.Token{number(0, s)}})
			same(t, "a"+s, answer{l: []api.Token{word(0, "a"+s)}})
		case r == '{' || r == '}' || r == '(' || r == ')' || r == ';' || r == '=' || r == ',':
			same(t, s, answer{l: []api.Token{sign(0, s)}})
			same(t, "a"+s, answer{l: []api.Token{word(0, "a"), sign(1, s)}})
		case r == 32 || r == 9 || r == 13 || r == 10:
			same(t, s, answer{})
			same(t, "a"+s, answer{l: []api.Token{word(0, "a")}})
		default:
			same(t, s, answer{at: 0, e: api.ErrSyntax})
			same(t, "a"+s, answer{at: 1, e: api.ErrSyntax})
		}
	}
}

// P5.1: bytes that are no rune, outside of a comment, and in one.
func TestNoRunes(t *testing.T) {
	for _, b := range []string{
		"\x80", "\xbf", "\xff", "\xfe", "\xc0", "\xc3", "\xe2\x82", "\xf0\x9d\x84", "\xf8\x88\x80\x80\x80",
		"\xc0\x80", "\xc1\xbf", "\xe0\x80\x80", "\xe0\x9f\xbf", "\xf0\x80\x80\x80", "\xf0\x8f\xbf\xbf",
		"\xed\xa0\x80", "\xed\xbf\xbf", "\xf4\x90\x80\x80", "\xf5\x80\x80\x80",
		"\xc3=", "\xc3a", "\xe2\x82;", "\xef\xbf", "\xc1\xa1",
	} {
		for _, ahead := range []string{"", " ", "a", "größe", "12", "=", "a //\xff\n", "//\n\n", "\xc3\xb6"} {
			for _, after := range []string{"", "a", "1", " ", "\n", "//", "-", "\xff"} {
				if utf8.FullRuneInString(b) || after == "" {
					refused(t, ahead+b+after, len(ahead), api.ErrText)
				}
			}
		}
		is(t, "//"+b)
		is(t, "a//"+b+"\nb", word(0, "a"), word(4+len(b), "b"))
	}
	refused(t, "ab\xff", 2, api.ErrText)
	refused(t, "a\xc3", 1, api.ErrText)
	refused(t, "ö\xb6", 2, api.ErrText)
}

// P5.1: the first wrong byte is told, whatever comes behind it, and nothing of what stands ahead.
func TestFirstWrong(t *testing.T) {
	refused(t, "a-\xff", 1, api.ErrSyntax)
	refused(t, "a\xff-", 1, api.ErrText)
	refused(t, "-\xff", 0, api.ErrSyntax)
	refused(t, "\xff-", 0, api.ErrText)
	refused(t, "a=1; // \xff - \n b=?;\xff", 16, api.ErrSyntax)
	refused(t, "a=1; // \xff - \n b=\xff;?", 16, api.ErrText)
	refused(t, "a=1;b=2;c=3;.", 12, api.ErrSyntax)
	refused(t, "größe-", 7, api.ErrSyntax)
	refused(t, "a\v", 1, api.ErrSyntax)
	refused(t, "//a\n//b\n\x00", 8, api.ErrSyntax)
	refused(t, "12-", 2, api.ErrSyntax)
	refused(t, "-12", 0, api.ErrSyntax)
	refused(t, "1.5", 1, api.ErrSyntax)
	refused(t, "\"a\"", 0, api.ErrSyntax)
}

// P5.1: MaxSource bytes are read, one more is refused ahead of all else.
func TestMaxSource(t *testing.T) {
	full := func(s string) string { return strings.Repeat(s, api.MaxSource/len(s)+1)[:api.MaxSource] }
	is(t, full(" "))
	is(t, full("//a"))
	is(t, full("// \n"))
	refused(t, full("//\n"), api.MaxSource-1, api.ErrSyntax)
	is(t, full("/"))
	is(t, full("a"), word(0, full("a")))
	is(t, full("ö"), word(0, full("ö")))
	is(t, full("7"), number(0, full("7")))
	for _, s := range []string{"=", "a ", "1a ", "a=1;//b\n", "1 ", "größe=1; ", "{};"} {
		want := read(full(s))
		if want.e == api.OK && len(want.l) < api.MaxSource/len(s) {
			t.Fatalf("%q: %d pieces", s, len(want.l))
		}
		same(t, full(s), want)
	}
	refused(t, full(" ")[1:]+"-", api.MaxSource-1, api.ErrSyntax)
	refused(t, full(" ")[1:]+"\xc3", api.MaxSource-1, api.ErrText)
	refused(t, full("a")[1:]+"/", api.MaxSource-1, api.ErrSyntax)
	for _, s := range []string{" ", "a", "/", "-", "\xff", "1", "="} {
		refused(t, full(s)+s, 0, api.ErrBig)
		refused(t, full(" ")+s, 0, api.ErrBig)
		refused(t, full(s)+full(s), 0, api.ErrBig)
	}
	refused(t, strings.Repeat("ö", api.MaxSource/2)+"a", 0, api.ErrBig)
}

// P5.1: all texts of two bytes, and those of up to six of the bytes at which it is decided.
func TestEveryShortText(t *testing.T) {
	for a := range 256 {
		for b := range 256 {
			s := string([]byte{byte(a), byte(b)})
			same(t, s, read(s))
		}
	}
	texts := []string{""}
	for range 6 {
		var next []string
		for _, s := range texts {
			for _, b := range []string{"a", "1", "/", "\n", "\xc3", "\xb6", ";"} {
				same(t, s+b, read(s+b))
				if read(s).e == api.OK || len(s) < 3 { // else more of the same
					next = append(next, s+b)
				}
			}
		}
		texts = next
	}
}

// P5.1: pieces, comments and wrong bytes mixed up, from a fixed seed.
func TestMixedTexts(t *testing.T) {
	dice := rand.New(rand.NewSource(5))
	good := []string{"a", "ö", "_", "message", "x1", "1", "23", "0", "{", "}", "(", ")", ";", "=", ",", " ", "\t", "\r", "\n", "//", "// c \xff\n", "//\n", "ω"}
	bad := []string{"/", "-", "\xff", "\xc3", "×", "€", "\v", "\x00", "\xed\xa0\x80"}
	for range 5000 {
		var b strings.Builder
		for range dice.Intn(30) {
			if dice.Intn(25) > 0 {
				b.WriteString(good[dice.Intn(len(good))])
			} else {
				b.WriteString(bad[dice.Intn(len(bad))])
			}
		}
		same(t, b.String(), read(b.String()))
	}
}

// R3, R4: an answer is new memory, and one call says nothing to the next.
func TestAnswersAreNew(t *testing.T) {
	s := "a=1;"
	first, _, _ := lex.Tokens(s)
	for i := range first[:cap(first)] {
		first[:cap(first)][i] = word(9, "zz")
	}
	lex.Tokens("\xff")
	is(t, s, word(0, "a"), sign(1, "="), number(2, "1"), sign(3, ";"))
}

// counts ends the test, if Number(s) is not n, or, with a negative n, not refused.
func counts(t *testing.T, s string, n int) {
	t.Helper()
	got, ok := lex.Number(s)
	if ok != (n >= 0) || got != max(n, 0) {
		t.Fatalf("Number(%q) = %d, %v; want %d", s, got, ok, n)
	}
}

// P5.2: numbers of one to ten digits.
func TestNumbers(t *testing.T) {
	for n := range 20000 {
		counts(t, strconv.Itoa(n), n)
	}
	for s, n := range map[string]int{
		"0": 0, "1": 1, "9": 9, "10": 10, "99": 99, "100": 100, "500": 500, "2147483647": 1<<31 - 1, "2147483648": 1 << 31, "4294967295": 1<<32 - 1, "4294967296": 1 << 32,
		"999999999": 999999999, "1000000000": 1000000000, "1234567890": 1234567890, "9876543210": 9876543210, "9999999999": 9999999999,
	} {
		counts(t, s, n)
	}
	dice := rand.New(rand.NewSource(52))
	for range 5000 {
		n := dice.Intn(10000000000)
		counts(t, strconv.Itoa(n), n)
	}
}

// P5.2: texts that are no number.
func TestNoNumbers(t *testing.T) {
	for _, s := range []string{
		"", "00", "01", "007", "0000000000", "0123456789", "00000000001", "10000000000", "12345678901", "99999999999", strings.Repeat("1", 30), strings.Repeat("0", 30),
		"18446744073709551617", "9223372036854775808",
		"a", "1a", "a1", "-1", "+1", "-0", "-", "+", " 1", "1 ", "1\n", "1_000", "1.5", "1e3", "0x1", "1,", "1;", "/", ":", "1/", "1:", "\x00", "1\x00",
		"٣", "1٣", "１", "²", "\xff", "1\xff", "123456789\xff", "123456789a", "12345678ö", "ö", "\ufffd", "0a", "0 ",
	} {
		counts(t, s, -1)
	}
}

// P5.2: all texts of up to two bytes.
func TestEveryShortNumber(t *testing.T) {
	digit := func(b int) bool { return '0' <= b && b <= '9' }
	for a := range 256 {
		one := -1
		if digit(a) {
			one = a - '0'
		}
		counts(t, string([]byte{byte(a)}), one)
		for b := range 256 {
			two := -1
			if one > 0 && digit(b) {
				two = 10*one + b - '0'
			}
			counts(t, string([]byte{byte(a), byte(b)}), two)
		}
	}
}

// P5.2: one sign that is no digit, at each place of a number.
func TestSpoiltNumbers(t *testing.T) {
	for size := 1; size <= 10; size++ {
		s := "9876543210"[:size]
		for at := range size {
			for _, b := range []byte{'/', ':', 'a', ' ', '-', 0, 0x80, 0xff} {
				spoilt := []byte(s)
				spoilt[at] = b
				counts(t, string(spoilt), -1)
			}
		}
	}
}
