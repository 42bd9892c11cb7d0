package decode_test

import (
	"math"
	"math/rand"
	"reflect"
	"strings"
	"testing"

	"concordat/api"
	"concordat/check"
	"concordat/decode"
	"concordat/value"
	"concordat/wire"
)

// answers ends the test, if Decode does not answer want, or turns what is handed in.
func answers(t *testing.T, s api.Schema, name, b string, want api.Tree, err api.Errno) {
	t.Helper()
	in := []byte(b)
	got, e := decode.Decode(s, name, in)
	if e != err || !equal(got, want) {
		t.Fatalf("Decode(%q, % x): %s, %v; want %s, %v", name, short(b), short(got), e, short(want), err)
	}
	if string(in) != b {
		t.Fatalf("Decode turned % x to % x", b, in)
	}
}

// is ends the test, if bytes are not that message of all.
func is(t *testing.T, name, b string, want api.Tree) {
	t.Helper()
	answers(t, schema(t, all), name, b, want, api.OK)
}

// refuses ends the test, if bytes are not refused by that error, as a message of all.
func refuses(t *testing.T, name, b string, want api.Errno) {
	t.Helper()
	s := schema(t, all)
	answers(t, s, name, b, api.Tree{}, want)
	if decode.Canonical(s, name, []byte(b)) {
		t.Fatalf("Canonical(%q, % x), but Decode says %v", name, short(b), want)
	}
}

// P12.1: the chapter's example.
func TestExample(t *testing.T) {
	s := schema(t, "schema s; message without { int32 a = 2; } message and { int32 a = 1; }")
	answers(t, s, "without", "\x02\x0a", with(msg(), rawNum(1, 5)), api.OK)
	answers(t, s, "and", "\x02\x0a", msg(at(1, num(5))), api.OK)
}

// P12.1: a field of each kind and label.
func TestFields(t *testing.T) {
	is(t, "m", "", msg())
	is(t, "empty", "", msg())
	is(t, "m", fn(11, -1)+fn(12, 1<<40)+fn(13, 1)+ft(14, "größe")+ft(15, "\xff")+fn(16, 9)+ft(17, fn(11, 1)),
		msg(at(11, num(-1)), at(12, num(1<<40)), at(13, num(1)), at(14, str("größe")), at(15, str("\xff")), at(16, num(9)), at(17, msg(at(11, num(1))))))
	is(t, "m", fn(21, 7)+ft(24, "a")+fn(26, 9)+ft(27, fn(21, 3))+fn(31, 1)+fn(31, 0)+fn(31, -1)+ft(34, "b")+ft(34, "a")+ft(35, "\x80")+ft(35, "")+ft(37, "")+ft(37, fn(11, 1))+ft(47, ft(1, "c")),
		msg(at(21, num(7)), at(24, str("a")), at(26, num(9)), at(27, msg(at(21, num(3)))), at(31, num(1), num(0), num(-1)), at(34, str("b"), str("a")), at(35, str("\x80"), str("")), at(37, msg(), msg(at(11, num(1)))), at(47, msg(at(1, str("c"))))))
	is(t, "n", ft(1, "a")+fn(22, math.MinInt64)+fn(23, 1)+ft(25, "\xc3")+ft(27, ft(1, "b"))+fn(32, math.MaxInt64)+fn(32, 0)+fn(33, 0)+fn(33, 1)+fn(36, 9)+fn(36, 0)+ft(37, "")+ft(37, "")+ft(47, fn(11, 2)),
		msg(at(1, str("a")), at(22, num(math.MinInt64)), at(23, num(1)), at(25, str("\xc3")), at(27, msg(at(1, str("b")))), at(32, num(math.MaxInt64), num(0)), at(33, num(0), num(1)), at(36, num(9), num(0)), at(37, msg(), msg()), at(47, msg(at(11, num(2))))))
	// As they stand on the wire: entries rise, whatever the order; those under one tag keep theirs.
	is(t, "m", ft(34, "b")+fn(31, 2)+fn(11, 1)+ft(34, "a")+fn(31, 1), msg(at(11, num(1)), at(31, num(2), num(1)), at(34, str("b"), str("a"))))
}

// P12.1: a schema that check does not say OK of, and a name that is no message's.
func TestSchemaRefused(t *testing.T) {
	turns := []func(s *api.Schema){
		func(s *api.Schema) { *s = api.Schema{} },
		func(s *api.Schema) { s.Name = "" },
		func(s *api.Schema) { s.Messages = nil },
		func(s *api.Schema) { s.Messages[2].Name = "m" },
		func(s *api.Schema) { s.Messages[0].Fields[1].Tag = 11 },
		func(s *api.Schema) { s.Messages[0].Fields[0].Label = 0 },
		func(s *api.Schema) { s.Messages[0].Fields[0].Type.Kind = 8 },
		func(s *api.Schema) { s.Messages[1].Fields[3].Type.Name = "x" },
		func(s *api.Schema) { s.Messages[0].Reserved[0] = 0 },
		func(s *api.Schema) { s.Enums[0].Values[0].N = 1 },
		func(s *api.Schema) { s.Methods[0].Out = "e" },
	}
	wrong := []string{"", "\x02", "\x00\x00", fn(13, 2), strings.Repeat("\x00", api.MaxBytes+1)}
	for _, turn := range turns {
		s := schema(t, all)
		turn(&s)
		if check.Check(s) == api.OK {
			t.Fatal("it may be")
		}
		for _, name := range []string{"m", "empty", "none", ""} {
			for _, b := range wrong { // this comes ahead of all else
				answers(t, s, name, b, api.Tree{}, api.ErrArg)
				if decode.Canonical(s, name, []byte(b)) {
					t.Fatal("Canonical of a schema that may not be")
				}
			}
		}
	}
	for _, name := range []string{"", "e", "f", "s", "none", "M", "m ", "a11", "zero", "\xff"} {
		for _, b := range wrong {
			refuses(t, name, b, api.ErrNone)
		}
	}
}

// P12.1: bytes that wire's Get refuses, with its error, ahead of what is wrong with a field.
func TestWireErrors(t *testing.T) {
	for _, x := range []struct {
		b    string
		want api.Errno
	}{
		{"\x16", api.ErrShort}, {"\x1d\x02a", api.ErrShort}, {"\x80", api.ErrShort}, {"\xdd\x04\x01", api.ErrShort}, {fn(11, 1) + "\x16", api.ErrShort}, {"\x1d\xff\xff\xff\xff\xff\xff\xff\xff\xff\x01", api.ErrShort},
		{"\x16\x80\x00", api.ErrBytes}, {"\x96\x00\x01", api.ErrBytes}, {"\x16" + strings.Repeat("\xff", 10), api.ErrBytes}, {"\x16" + strings.Repeat("\xff", 9) + "\x02", api.ErrBytes},
		{"\x00\x00", api.ErrTag}, {"\x01\x00", api.ErrTag}, {"\xea\x07\x00", api.ErrTag}, {"\x00", api.ErrTag}, {fn(500, 1) + "\xea\x07\x00", api.ErrTag},
		// A field ahead that is wrong by itself, and more of them than there may be.
		{fn(13, 2) + "\x16", api.ErrShort}, {ft(11, "") + "\x00\x00", api.ErrTag}, {ft(14, "\xff") + "\x16\x80\x00", api.ErrBytes}, {strings.Repeat(fn(31, 0), 65) + "\x00", api.ErrTag}, {ft(17, "\x16") + "\x00\x00", api.ErrTag},
		// Of several of wire's the first.
		{"\x00\x00\x16", api.ErrTag}, {"\x16\x80\x00\x00\x00", api.ErrBytes},
	} {
		if _, e := wire.Get([]byte(x.b)); e != x.want {
			t.Fatalf("wire: % x: %v", x.b, e)
		}
		refuses(t, "m", x.b, x.want)
		refuses(t, "empty", x.b, x.want)
		refuses(t, "m", ft(17, x.b), x.want)
		refuses(t, "m", ft(37, "")+ft(37, ft(47, x.b)), x.want)
		refuses(t, "m", wrap(x.b, 27, api.MaxDepth-1), x.want)
		// Where no schema knows it, it is no message.
		is(t, "m", ft(300, x.b), with(msg(), rawText(300, x.b)))
		is(t, "m", ft(15, x.b), msg(at(15, str(x.b))))
	}
}

// P12.1: as many bytes as may be, and one more.
func TestBig(t *testing.T) {
	long := strings.Repeat("a", api.MaxBytes)
	is(t, "m", ft(15, long[3:]), msg(at(15, str(long[3:]))))
	refuses(t, "m", ft(15, long[2:]), api.ErrBig)
	is(t, "m", ft(300, long[4:]), with(msg(), rawText(300, long[4:])))
	refuses(t, "m", ft(300, long[3:]), api.ErrBig)
	is(t, "m", strings.Repeat(fn(11, 0), api.MaxBytes/2), msg())
	is(t, "m", strings.Repeat(fn(11, 1), api.MaxBytes/2), msg(at(11, num(1))))
	refuses(t, "m", strings.Repeat(fn(11, 0), api.MaxBytes/2+1), api.ErrBig)
	// Ahead of all else that is wrong with them.
	refuses(t, "m", strings.Repeat(fn(11, 0), api.MaxBytes/2)+"\x16", api.ErrBig)
	refuses(t, "m", strings.Repeat("\x00", api.MaxBytes+1), api.ErrBig)
	refuses(t, "m", strings.Repeat(ft(11, ""), api.MaxBytes/2+1), api.ErrBig)
}

// P12.1: a field of each kind and label with the other wire type.
func TestOtherWire(t *testing.T) {
	s := schema(t, all)
	for _, m := range s.Messages[:2] {
		for _, f := range m.Fields {
			for _, x := range []struct {
				b    string
				text bool
			}{{fn(f.Tag, 0), false}, {fn(f.Tag, 1), false}, {ft(f.Tag, ""), true}, {ft(f.Tag, fn(2, 1)), true}} {
				isText := f.Type.Kind == api.Text || f.Type.Kind == api.Bytes || f.Type.Kind == api.Msg
				want, e := decoded(s, m.Name, x.b, 1)
				if (e == api.ErrType) != (isText != x.text) || e != api.ErrType && e != api.OK {
					t.Fatal(f, x.b, e)
				}
				answers(t, s, m.Name, x.b, want, e)
				answers(t, s, m.Name, fn(300, 1)+x.b+fn(300, 1), with(want, extra(e)...), e)
			}
		}
	}
	// That comes ahead of what it is.
	for _, b := range []string{fn(14, 2), fn(15, -1), fn(17, 2), fn(34, 2), ft(13, "\xff"), ft(16, "\x02"), ft(11, "\x00\x00"), ft(31, "\x16")} {
		refuses(t, "m", b, api.ErrType)
		refuses(t, "m", ft(17, b), api.ErrType)
	}
	refuses(t, "m", strings.Repeat(fn(31, 0), api.MaxItems)+ft(31, ""), api.ErrType)
	refuses(t, "m", wrap(fn(27, 0), 27, api.MaxDepth-1), api.ErrType)
}

// extra is what is not known of a message that is decoded, in this test.
func extra(e api.Errno) []api.Raw {
	if e != api.OK {
		return nil
	}
	return []api.Raw{rawNum(300, 1), rawNum(300, 1)}
}

// P12.1: numbers out of their range; an Int32 is taken as it is.
func TestNumbers(t *testing.T) {
	numbers := []int{0, 1, 2, -1, 5, 9, 1<<31 - 1, 1 << 31, -1 << 31, -1<<31 - 1, 1<<32 + 1, 1 << 40, math.MaxInt64, math.MinInt64}
	for _, n := range numbers {
		for _, tag := range []int{21, 31} {
			is(t, "m", fn(tag, n), msg(at(tag, num(n))))
		}
		for _, tag := range []int{22, 32} {
			is(t, "n", fn(tag, n), msg(at(tag, num(n))))
		}
		for _, x := range []struct {
			name string
			tag  int
			ok   bool
		}{{"m", 13, n == 0 || n == 1}, {"n", 23, n == 0 || n == 1}, {"n", 33, n == 0 || n == 1}, {"m", 16, n >= 0 && n < 1<<31}, {"m", 26, n >= 0 && n < 1<<31}, {"n", 36, n >= 0 && n < 1<<31}} {
			switch {
			case !x.ok:
				refuses(t, x.name, fn(x.tag, n), api.ErrRange)
				refuses(t, x.name, fn(x.tag, 1)+fn(x.tag, n)+fn(x.tag, 1), api.ErrRange)
				refuses(t, "m", ft(37, "")+ft(47, ft(27, "")+ft(47, ""))+ft(map[string]int{"m": 37, "n": 47}[x.name], fn(x.tag, n)), api.ErrRange)
			case n == 0 && x.tag < 20:
				is(t, x.name, fn(x.tag, n), msg())
			default:
				is(t, x.name, fn(x.tag, n), msg(at(x.tag, num(n))))
			}
		}
		if n != 0 {
			is(t, "m", fn(11, n)+fn(12, n), msg(at(11, num(n)), at(12, num(n))))
		}
	}
}

// P12.1: a Text that is none; Bytes may be any.
func TestTexts(t *testing.T) {
	for _, s := range []string{"\xff", "\x80", "a\xc3", "\xc0\x80", "\xed\xa0\x80", "\xf4\x90\x80\x80", "a\xffb", "gr\xc3\xb6\xc3"} {
		for _, tag := range []int{14, 24, 34} {
			refuses(t, "m", ft(tag, s), api.ErrText)
			refuses(t, "m", ft(tag, "a")+ft(tag, s)+ft(tag, "a"), api.ErrText)
			refuses(t, "m", ft(37, "")+ft(17, ft(27, ft(tag, s))), api.ErrText)
		}
		is(t, "m", ft(15, s)+ft(35, s)+ft(35, ""), msg(at(15, str(s)), at(35, str(s), str(""))))
		is(t, "n", ft(25, s), msg(at(25, str(s))))
		is(t, "m", ft(300, s), with(msg(), rawText(300, s)))
		// What another message has as a text, this one does not know.
		is(t, "m", ft(1, s), with(msg(), rawText(1, s)))
		refuses(t, "n", ft(1, s), api.ErrText)
	}
	for _, s := range []string{"\x00", "größe", "\U0010ffff", "\ufffd"} {
		is(t, "m", ft(14, s)+ft(24, s)+ft(34, s)+ft(34, s), msg(at(14, str(s)), at(24, str(s)), at(34, str(s), str(s))))
	}
}

// P12.1, R2: of several errors the first, field by field as they stand, in all of the depth.
func TestFirstError(t *testing.T) {
	wrong := []struct {
		b    string
		want api.Errno
	}{
		{ft(11, ""), api.ErrType}, {fn(14, 0), api.ErrType}, {fn(13, 2), api.ErrRange}, {fn(26, -1), api.ErrRange}, {ft(14, "\xff"), api.ErrText}, {ft(34, "\x80"), api.ErrText},
		{ft(17, "\x16"), api.ErrShort}, {ft(27, "\x00\x00"), api.ErrTag}, {ft(37, "\x16\x80\x00"), api.ErrBytes}, {ft(17, fn(13, 2)), api.ErrRange}, {ft(47, fn(1, 0)), api.ErrType}, {ft(37, ft(27, ft(14, "\xff"))), api.ErrText},
		{wrap("", 27, api.MaxDepth), api.ErrDeep}, {strings.Repeat(fn(31, 0), 65), api.ErrBig}, {ft(17, strings.Repeat(ft(37, ""), 65)), api.ErrBig},
	}
	right := fn(300, 1) + fn(11, 0) + ft(14, "a") + ft(37, "")
	for _, a := range wrong {
		for _, b := range wrong {
			refuses(t, "m", a.b+b.b, a.want)
			refuses(t, "m", right+a.b+right+b.b+right, a.want)
			// A tag's number says nothing, nor how deep it stands.
			if a.want == api.ErrDeep || b.want == api.ErrDeep {
				continue
			}
			refuses(t, "m", ft(17, a.b+b.b), a.want)
			refuses(t, "m", ft(17, a.b)+b.b, a.want)
			refuses(t, "m", a.b+ft(17, b.b), a.want)
			refuses(t, "m", ft(37, ft(47, ft(47, a.b)))+ft(37, b.b), a.want)
			refuses(t, "m", ft(37, ft(27, right)+ft(27, a.b))+ft(27, b.b), a.want)
		}
	}
}

// P12.1: a message in a message as deep as may be, and one deeper.
func TestDepth(t *testing.T) {
	for _, tag := range []int{17, 27, 37} {
		for _, x := range []struct {
			b string
			t api.Tree
		}{{fn(11, 1), msg(at(11, num(1)))}, {fn(300, 0), with(msg(), rawNum(300, 0))}, {ft(34, ""), msg(at(34, str("")))}} {
			for n := range api.MaxDepth {
				is(t, "m", wrap(x.b, tag, n), wrapped(x.t, tag, n))
			}
			for n := api.MaxDepth; n < 3*api.MaxDepth; n++ {
				refuses(t, "m", wrap(x.b, tag, n), api.ErrDeep)
			}
		}
		// It need not have anything in it to be deep, nor be such as may be.
		for _, b := range []string{"", "\x16", "\x00\x00", fn(13, 2), fn(11, 0)} {
			refuses(t, "m", wrap(b, tag, api.MaxDepth), api.ErrDeep)
		}
	}
	// Of a One message the empty one deepest in is no entry; so is what it stands in.
	is(t, "m", wrap("", 17, api.MaxDepth-1), msg())
	is(t, "m", wrap("", 27, api.MaxDepth-1), wrapped(msg(), 27, api.MaxDepth-1))
	// By turns.
	b, x := ft(1, "a"), msg(at(1, str("a")))
	name := "n"
	for n := 1; n <= api.MaxDepth; n++ {
		is(t, name, b, x)
		b, x = ft(47, b), msg(at(47, x))
		name = map[string]string{"m": "n", "n": "m"}[name]
	}
	refuses(t, name, b, api.ErrDeep)
	// What is not known is not deep.
	is(t, "m", wrap("\x16", 300, 50), with(msg(), rawText(300, wrap("\x16", 300, 49))))
	is(t, "m", ft(15, wrap("", 27, 50)), msg(at(15, str(wrap("", 27, 50)))))
	// One that is too deep behind one that is not, and the other way round.
	is(t, "m", ft(37, wrap("", 37, api.MaxDepth-2))+ft(37, ""), msg(at(37, wrapped(msg(), 37, api.MaxDepth-2), msg())))
	refuses(t, "m", ft(37, "")+ft(37, wrap("", 37, api.MaxDepth-1)), api.ErrDeep)
	refuses(t, "m", ft(17, wrap("", 17, api.MaxDepth-1))+ft(17, ""), api.ErrDeep)
}

// P12.1: 64 and 65 fields under a Repeated tag; others may be there as often as they like.
func TestMany(t *testing.T) {
	for _, x := range []struct {
		name string
		tag  int
		b    string
		t    api.Tree
	}{
		{"m", 31, fn(31, 0), num(0)}, {"m", 31, fn(31, 1<<40), num(1 << 40)}, {"m", 34, ft(34, "a"), str("a")}, {"m", 35, ft(35, ""), str("")}, {"m", 37, ft(37, ""), msg()}, {"m", 37, ft(37, fn(11, 1)), msg(at(11, num(1)))},
		{"n", 32, fn(32, 1), num(1)}, {"n", 33, fn(33, 0), num(0)}, {"n", 36, fn(36, 9), num(9)}, {"n", 37, ft(37, ""), msg()},
	} {
		e := at(x.tag)
		for n := 1; n <= api.MaxItems; n++ {
			e.Trees = append(e.Trees, x.t)
			if n%21 == 1 {
				is(t, x.name, strings.Repeat(x.b, n), msg(e))
			}
		}
		full := strings.Repeat(x.b, api.MaxItems)
		is(t, x.name, fn(300, 1)+full+fn(300, 2), with(msg(e), rawNum(300, 1), rawNum(300, 2)))
		refuses(t, x.name, full+x.b, api.ErrBig)
		refuses(t, x.name, x.b+fn(300, 1)+full, api.ErrBig)
		refuses(t, x.name, strings.Repeat(x.b, 100), api.ErrBig)
		outer := map[string]int{"m": 27, "n": 47}[x.name]
		is(t, "m", ft(outer, full), msg(at(outer, msg(e))))
		refuses(t, "m", ft(outer, full+x.b), api.ErrBig)
		refuses(t, "m", ft(outer, full+x.b)+ft(outer, ""), api.ErrBig)
	}
	// Each tag for itself, and each message.
	e31, e35 := at(31), at(35)
	for range api.MaxItems {
		e31.Trees, e35.Trees = append(e31.Trees, num(1)), append(e35.Trees, str("a"))
	}
	full := strings.Repeat(fn(31, 1)+ft(35, "a"), api.MaxItems)
	is(t, "m", full, msg(e31, e35))
	is(t, "m", full+ft(37, full)+ft(37, full), msg(e31, e35, at(37, msg(e31, e35), msg(e31, e35))))
	// The 65th is wrong by itself: that is told.
	refuses(t, "m", full+ft(31, ""), api.ErrType)
	refuses(t, "m", strings.Repeat(ft(34, ""), api.MaxItems)+ft(34, "\xff"), api.ErrText)
	refuses(t, "n", strings.Repeat(fn(33, 0), api.MaxItems)+fn(33, 2), api.ErrRange)
	refuses(t, "m", strings.Repeat(ft(37, ""), api.MaxItems)+ft(37, "\x16"), api.ErrShort)
	refuses(t, "m", strings.Repeat(ft(37, ""), api.MaxItems)+ft(37, wrap("", 37, api.MaxDepth-1)), api.ErrDeep)
	is(t, "m", strings.Repeat(fn(11, 1), 65), msg(at(11, num(1))))
	is(t, "m", strings.Repeat(ft(24, ""), 200), msg(at(24, str(""))))
	var rest []api.Raw
	for range 200 {
		rest = append(rest, rawNum(300, 1))
	}
	is(t, "m", strings.Repeat(fn(300, 1), 200), with(msg(), rest...))
}

// P12.1: of a field that is not Repeated the last one counts; an earlier one that is wrong is told all the same.
func TestLastCounts(t *testing.T) {
	is(t, "m", fn(11, 1)+fn(11, 2), msg(at(11, num(2))))
	is(t, "m", fn(21, 2)+fn(300, 1)+fn(21, 1)+fn(11, 5)+fn(21, 3), with(msg(at(11, num(5)), at(21, num(3))), rawNum(300, 1)))
	is(t, "m", ft(14, "b")+ft(24, "c")+ft(14, "a")+ft(24, ""), msg(at(14, str("a")), at(24, str(""))))
	// Messages are not put together.
	is(t, "m", ft(17, fn(11, 1)+fn(300, 1))+ft(17, fn(12, 2)), msg(at(17, msg(at(12, num(2))))))
	is(t, "m", ft(27, fn(11, 1))+ft(27, ""), msg(at(27, msg())))
	is(t, "m", ft(37, fn(11, 1)+fn(11, 2))+ft(37, ft(27, "")+ft(27, fn(21, 0)+fn(21, 1))), msg(at(37, msg(at(11, num(2))), msg(at(27, msg(at(21, num(1))))))))
	for _, x := range []struct {
		wrong, right string
		want         api.Errno
	}{
		{ft(11, ""), fn(11, 1), api.ErrType}, {fn(14, 1), ft(14, "a"), api.ErrType}, {fn(13, 2), fn(13, 1), api.ErrRange}, {fn(26, -1), fn(26, 0), api.ErrRange}, {ft(14, "\xff"), ft(14, "a"), api.ErrText}, {ft(24, "\xff"), ft(24, ""), api.ErrText}, {ft(17, "\x16"), ft(17, ""), api.ErrShort}, {ft(27, fn(13, 2)), ft(27, fn(13, 1)), api.ErrRange}, {ft(27, wrap("", 27, api.MaxDepth-1)), ft(27, ""), api.ErrDeep},
	} {
		refuses(t, "m", x.wrong+x.right, x.want)
		refuses(t, "m", x.right+x.wrong+x.right, x.want)
		refuses(t, "m", x.right+x.wrong, x.want)
	}
}

// P12.1: of a One field no entry, if the last one is Zero; Optional and Repeated ones are there.
func TestZeros(t *testing.T) {
	is(t, "m", fn(11, 0)+fn(12, 0)+fn(13, 0)+ft(14, "")+ft(15, "")+fn(16, 0)+ft(17, "")+ft(47, ""), msg())
	is(t, "m", fn(11, 1)+fn(11, 0), msg())
	is(t, "m", fn(11, 0)+fn(11, 1), msg(at(11, num(1))))
	is(t, "m", fn(11, 1)+fn(11, 0)+fn(11, 2), msg(at(11, num(2))))
	is(t, "m", ft(14, "a")+ft(14, "")+ft(15, "a")+ft(15, "")+fn(16, 9)+fn(16, 0)+fn(13, 1)+fn(13, 0)+fn(12, 7)+fn(12, 0), msg())
	is(t, "m", ft(17, fn(11, 1))+ft(17, ""), msg())
	is(t, "m", ft(17, "")+ft(17, fn(11, 1)), msg(at(17, msg(at(11, num(1))))))
	is(t, "m", fn(21, 0)+ft(24, "")+fn(26, 0)+ft(27, ""), msg(at(21, num(0)), at(24, str("")), at(26, num(0)), at(27, msg())))
	is(t, "m", fn(21, 1)+fn(21, 0), msg(at(21, num(0))))
	is(t, "n", fn(22, 0)+fn(23, 0)+ft(25, "")+ft(27, ""), msg(at(22, num(0)), at(23, num(0)), at(25, str("")), at(27, msg())))
	is(t, "m", fn(31, 0)+ft(34, "")+ft(35, "")+ft(37, ""), msg(at(31, num(0)), at(34, str("")), at(35, str("")), at(37, msg())))
	is(t, "n", fn(32, 0)+fn(33, 0)+fn(36, 0)+ft(37, ""), msg(at(32, num(0)), at(33, num(0)), at(36, num(0)), at(37, msg())))
	// A One message of zeros alone is Zero itself; one with something that is not known is not, whatever that is.
	is(t, "m", ft(17, fn(11, 0)+ft(14, "")+ft(17, fn(12, 0)))+ft(47, ft(1, "")), msg())
	is(t, "m", ft(17, fn(300, 0)), msg(at(17, with(msg(), rawNum(300, 0)))))
	is(t, "m", ft(17, fn(11, 0)+ft(300, "")), msg(at(17, with(msg(), rawText(300, "")))))
	is(t, "m", ft(17, fn(300, 0))+ft(17, fn(11, 0)), msg())
	is(t, "m", ft(17, fn(21, 0)), msg(at(17, msg(at(21, num(0))))))
	is(t, "m", ft(17, ft(17, ft(17, fn(300, 0)))), wrapped(with(msg(), rawNum(300, 0)), 17, 3))
}

// P12.1: fields that are not known, ahead of, between and behind those that are.
func TestRest(t *testing.T) {
	is(t, "m", fn(1, 1)+fn(11, 1)+ft(20, "b")+fn(21, 1)+fn(500, 0), with(msg(at(11, num(1)), at(21, num(1))), rawNum(1, 1), rawText(20, "b"), rawNum(500, 0)))
	// By tags, of one tag as they came, numbers and texts together.
	is(t, "m", fn(500, 5)+ft(300, "b")+fn(11, 1)+fn(300, 2)+fn(2, 0)+ft(300, "a")+fn(300, 1)+fn(500, 4), with(msg(at(11, num(1))), rawNum(2, 0), rawText(300, "b"), rawNum(300, 2), rawText(300, "a"), rawNum(300, 1), rawNum(500, 5), rawNum(500, 4)))
	// Reserved tags, and those of other messages.
	is(t, "m", fn(1, 1)+fn(41, 2)+ft(500, "")+fn(22, 9)+fn(36, -1)+ft(33, "\xff"), with(msg(), rawNum(1, 1), rawNum(22, 9), rawText(33, "\xff"), rawNum(36, -1), rawNum(41, 2), rawText(500, "")))
	is(t, "n", fn(11, 1)+ft(14, "\xff")+ft(13, "a"), with(msg(), rawNum(11, 1), rawText(13, "a"), rawText(14, "\xff")))
	is(t, "empty", fn(1, 1)+ft(11, "a")+fn(1, 0), with(msg(), rawNum(1, 1), rawNum(1, 0), rawText(11, "a")))
	// Each message has its own.
	deep := fn(300, 3) + fn(299, 3) + ft(27, fn(300, 2)+fn(11, 2)+fn(2, 2)) + fn(1, 3)
	is(t, "m", fn(300, 1)+ft(37, deep)+fn(2, 1)+ft(37, fn(300, 4))+ft(47, fn(11, 5)+ft(1, "a")+fn(2, 5)), with(msg(
		at(37, with(msg(at(27, with(msg(at(11, num(2))), rawNum(2, 2), rawNum(300, 2)))), rawNum(1, 3), rawNum(299, 3), rawNum(300, 3)), with(msg(), rawNum(300, 4))),
		at(47, with(msg(at(1, str("a"))), rawNum(2, 5), rawNum(11, 5))),
	), rawNum(2, 1), rawNum(300, 1)))
	// Of a message that does not count, nothing stays.
	is(t, "m", ft(27, fn(300, 1))+fn(300, 2)+ft(27, fn(301, 1)), with(msg(at(27, with(msg(), rawNum(301, 1)))), rawNum(300, 2)))
}

func TestAgainstReference(t *testing.T) {
	r := rand.New(rand.NewSource(1))
	s, whole := schema(t, all), schema(t, all)
	told, canonical := map[api.Errno]int{}, 0
	for range 40000 {
		name := pick(r, "m", "m", "n", "n", "empty", "e")
		b := someBytes(r, s, name, r.Intn(4))
		if name != "e" && r.Intn(20) == 0 {
			b, name = wrap(b, 27, pick(r, 6, 8, 9, 10)), "m"
		}
		want, e := decoded(s, name, b, 1)
		answers(t, s, name, b, want, e)
		told[e]++
		same := e == api.OK && encoded(want) == b
		if decode.Canonical(s, name, []byte(b)) != same {
			t.Fatalf("Canonical(%q, % x): %v", name, b, !same)
		}
		if same {
			canonical++
		}
		if e == api.OK && !value.Check(want) {
			t.Fatalf("% x is %s", b, short(want))
		}
	}
	for _, e := range []api.Errno{api.OK, api.ErrNone, api.ErrShort, api.ErrTag, api.ErrBytes, api.ErrType, api.ErrRange, api.ErrText, api.ErrDeep, api.ErrBig} {
		if told[e] < 30 {
			t.Errorf("%v: %d times alone", e, told[e])
		}
	}
	if canonical < 1000 || canonical > told[api.OK]-1000 {
		t.Error(canonical, told)
	}
	if !reflect.DeepEqual(s, whole) {
		t.Error("the schema was turned")
	}
}
