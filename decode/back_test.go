package decode_test

import (
	"math/rand"
	"slices"
	"strings"
	"testing"

	"concordat/api"
	"concordat/check"
	"concordat/decode"
	"concordat/encode"
	"concordat/valid"
	"concordat/value"
)

// canonicalIs ends the test, if Canonical does not answer want of bytes that Decode takes, or turns them.
func canonicalIs(t *testing.T, name, b string, want bool) {
	t.Helper()
	s := schema(t, all)
	if _, e := decode.Decode(s, name, []byte(b)); e != api.OK {
		t.Fatalf("Decode(%q, % x): %v", name, short(b), e)
	}
	in := []byte(b)
	if got := decode.Canonical(s, name, in); got != want {
		t.Fatalf("Canonical(%q, % x): %v", name, short(b), got)
	}
	if string(in) != b {
		t.Fatalf("Canonical turned % x to % x", b, in)
	}
}

// P12.2: bytes that are what their message is encoded to.
func TestCanonical(t *testing.T) {
	for _, b := range []string{
		"", fn(11, 1), fn(11, 1<<40), fn(11, 1) + fn(12, -1) + fn(13, 1) + ft(14, "a") + ft(15, "\xff") + fn(16, 5) + ft(17, fn(11, 1)),
		fn(21, 0) + ft(24, "") + fn(26, 0) + ft(27, ""), fn(31, 1) + fn(31, 0) + fn(31, 1) + ft(34, "b") + ft(34, "a") + ft(35, "") + ft(37, "") + ft(37, ft(27, "")),
		// What is not known, by tags; of one tag in any order; whatever it is.
		fn(1, 1) + fn(11, 1) + ft(20, "") + fn(21, 1) + fn(500, 0), fn(300, 2) + fn(300, 1) + ft(300, "b") + fn(300, 0) + ft(300, "a"), ft(300, fn(12, 0)+fn(11, 0)), ft(300, "\x16"), ft(15, fn(12, 0)+fn(11, 0)), fn(22, 9) + ft(33, "\xff"),
		ft(17, fn(300, 0)), ft(27, fn(2, 1)+fn(21, 0)+ft(37, fn(1, 1)+fn(11, 1))+fn(500, 1)) + ft(47, ft(1, "a")+fn(11, 0)),
		strings.Repeat(fn(31, 0), api.MaxItems), wrap(fn(11, 1), 17, api.MaxDepth-1), wrap("", 27, api.MaxDepth-1), wrap("", 37, api.MaxDepth-1), ft(15, strings.Repeat("a", api.MaxBytes-3)), strings.Repeat(fn(9, 0), api.MaxBytes/2),
	} {
		canonicalIs(t, "m", b, true)
		// And wherever it stands, if it may stand there.
		for _, outer := range []string{ft(27, b), ft(37, "") + ft(37, b), ft(47, ft(1, "a")+ft(27, "")+ft(37, ft(47, fn(11, 1)+ft(27, b))))} {
			if _, e := decode.Decode(schema(t, all), "m", []byte(outer)); e == api.OK {
				canonicalIs(t, "m", outer, true)
			}
		}
	}
	canonicalIs(t, "empty", "", true)
	canonicalIs(t, "empty", fn(1, 0)+ft(11, ""), true)
	if s := schema(t, all); !decode.Canonical(s, "m", nil) || !decode.Canonical(s, "m", []byte{}) {
		t.Fatal("nothing is the empty message")
	}
}

// P12.2: bytes that Decode takes, and Encode of that message is something else.
func TestNotCanonical(t *testing.T) {
	for _, b := range []string{
		// Tags that do not rise: of fields, of what is not known, of both.
		fn(12, 1) + fn(11, 1), fn(31, 1) + fn(21, 1), fn(301, 0) + fn(300, 0), fn(300, 0) + fn(11, 1), fn(11, 1) + fn(1, 0), fn(31, 1) + fn(300, 1) + fn(31, 1), fn(300, 0) + fn(31, 1) + fn(300, 0),
		// A One field's zero.
		fn(11, 0), fn(12, 0), fn(13, 0), ft(14, ""), ft(15, ""), fn(16, 0), ft(17, ""), ft(47, ""), fn(11, 1) + fn(12, 0), fn(1, 1) + fn(11, 0) + fn(300, 1),
		// More than one of a field that is not Repeated.
		fn(11, 1) + fn(11, 1), fn(11, 0) + fn(11, 1), fn(21, 0) + fn(21, 0), ft(24, "a") + ft(24, "a"), ft(27, "") + ft(27, ""), ft(17, fn(11, 1)) + ft(17, ""),
	} {
		canonicalIs(t, "m", b, false)
		// And wherever it stands.
		for _, outer := range []string{ft(17, b), ft(27, b), ft(37, "") + ft(37, b), ft(37, b) + ft(37, ""), ft(47, ft(47, b)), wrap(b, 27, api.MaxDepth-3)} {
			canonicalIs(t, "m", outer, false)
		}
		// But not where it is no message.
		canonicalIs(t, "m", ft(15, b), true)
		canonicalIs(t, "m", ft(300, b), true)
		canonicalIs(t, "m", ft(17, ft(300, b)), true)
	}
	canonicalIs(t, "m", ft(17, fn(11, 0)), false)
	canonicalIs(t, "n", ft(1, ""), false)
}

// R2: what Decode refuses is not Canonical.
func TestRefusedIsNotCanonical(t *testing.T) {
	s := schema(t, all)
	for _, b := range []string{"\x16", "\x00\x00", "\x16\x80\x00", ft(11, ""), fn(13, 2), ft(14, "\xff"), ft(17, "\x16"), wrap("", 27, api.MaxDepth), strings.Repeat(fn(31, 0), 65), strings.Repeat(fn(300, 0), api.MaxBytes)} {
		if decode.Canonical(s, "m", []byte(b)) {
			t.Fatalf("% x", short(b))
		}
	}
	if decode.Canonical(s, "none", nil) || decode.Canonical(s, "e", nil) || decode.Canonical(api.Schema{}, "m", nil) || decode.Canonical(api.Schema{}, "", nil) {
		t.Fatal("of no message")
	}
}

// comesBack ends the test, if a value that is Valid is not decoded to itself; true, if it has bytes.
func comesBack(t *testing.T, s api.Schema, name string, x api.Tree) bool {
	t.Helper()
	if e := valid.Valid(s, name, x); e != api.OK {
		t.Fatalf("%s: %v", short(x), e)
	}
	b, e := encode.Encode(x)
	if e != api.OK {
		return false
	}
	answers(t, s, name, string(b), x, api.OK)
	if !decode.Canonical(s, name, b) {
		t.Fatalf("Canonical(%q, % x): false", name, b)
	}
	return true
}

// P12.3: what is Valid, encoded, is decoded to itself.
func TestComesBack(t *testing.T) {
	s := schema(t, all)
	var many []api.Tree
	for i := range api.MaxItems {
		many = append(many, num(i))
	}
	for _, x := range []api.Tree{
		msg(), msg(at(31, many...)), msg(at(15, str(strings.Repeat("\xff", api.MaxBytes-3)))), with(msg(), rawText(300, strings.Repeat("\xff", api.MaxBytes-4))),
		wrapped(msg(at(11, num(1))), 17, api.MaxDepth-1), wrapped(msg(), 27, api.MaxDepth-1), wrapped(with(msg(), rawText(300, "\xff")), 37, api.MaxDepth-1),
		msg(at(11, num(-1<<31)), at(12, num(-1<<63)), at(13, num(1)), at(14, str("größe")), at(15, str("\xff")), at(16, num(1<<31-1)), at(17, msg(at(21, num(0)))), at(21, num(0)), at(24, str("")), at(26, num(0)), at(27, msg()), at(31, num(0), num(0)), at(34, str("")), at(35, str("")), at(37, msg(), msg()), at(47, with(msg(), rawNum(11, 0)))),
	} {
		if !comesBack(t, s, "m", x) {
			t.Fatal(short(x))
		}
	}
	r := rand.New(rand.NewSource(2))
	back := 0
	for range 10000 {
		name := pick(r, "m", "n", "empty")
		if comesBack(t, s, name, fitting(r, s, name, r.Intn(6))) {
			back++
		}
	}
	if back < 9000 {
		t.Fatal(back)
	}
}

// elder is s without some of its fields.
func elder(r *rand.Rand, s api.Schema) api.Schema {
	l := slices.Clone(s.Messages)
	for i, m := range l {
		l[i].Fields = slices.DeleteFunc(slices.Clone(m.Fields), func(api.Field) bool { return r.Intn(3) == 0 })
	}
	s.Messages = l
	return s
}

// P12.3: what a schema does not know stays, in all of the depth: written again it has the same bytes.
func TestUnknownStays(t *testing.T) {
	r := rand.New(rand.NewSource(3))
	whole := schema(t, all)
	passed, kept := 0, 0
	for range 10000 {
		s := elder(r, whole)
		if e := check.Check(s); e != api.OK {
			t.Fatal(e)
		}
		name := pick(r, "m", "n")
		x := fitting(r, whole, name, r.Intn(6))
		b, e := encode.Encode(x)
		if e != api.OK {
			continue
		}
		y, e := decode.Decode(s, name, b)
		if e != api.OK {
			t.Fatalf("% x: %v", b, e)
		}
		again, e := encode.Encode(y)
		if e != api.OK || string(again) != string(b) || !decode.Canonical(s, name, b) {
			t.Fatalf("% x passes as % x, %v", b, again, e)
		}
		answers(t, whole, name, string(again), x, api.OK)
		passed++
		if !value.Same(x, y) {
			kept++
		}
	}
	if passed < 9000 || kept < 3000 {
		t.Fatal(passed, kept)
	}
}

// P12.3: a number of 64 bits stays, where an elder schema has 32.
func TestWideNumberStays(t *testing.T) {
	s := schema(t, all)
	for _, b := range []string{fn(11, 1<<40), fn(21, -1<<63), fn(31, 1<<31) + fn(31, -1<<31-1), ft(17, fn(11, 1<<63-1))} {
		x, e := decode.Decode(s, "m", []byte(b))
		if e != api.OK || encoded(x) != b || !decode.Canonical(s, "m", []byte(b)) {
			t.Fatalf("% x: %s, %v", b, short(x), e)
		}
	}
}
