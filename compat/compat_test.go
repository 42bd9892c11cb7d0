package compat_test

import (
	"fmt"
	"math"
	"slices"
	"strings"
	"testing"

	"concordat/api"
	"concordat/check"
	"concordat/compat"
)

// P14.1: the chapter's example.
func TestExample(t *testing.T) {
	texts(t, "schema s; message m { int32 a = 1; int32 b = 2; } call f(m) returns (m);", "schema s; message m { int32 a = 1; } call f(m) returns (m);", verdict{"m", 2, false})
	texts(t, "schema s; message m { int32 a = 1; int32 b = 2; } call f(m) returns (m);", "schema s; message m { int32 a = 1; reserved 2; } call f(m) returns (m);", yes)
}

const shop = `schema shop;
message ask { text what = 1; optional int32 many = 2; repeated colour in = 3; reserved 4, 500; }
message answer { repeated ware wares = 1; bool more = 2; }
message ware { text name = 1; int32 price = 2; bytes picture = 3; colour c = 4; optional ware part = 5; }
message lonely { int64 x = 1; }
enum colour { none = 0; red = 1; blue = 7; }
call find(ask) returns (answer);
call sell(ware) returns (answer);`

// P14.1: what may come behind: other names, other orders, more of each.
func TestMayCome(t *testing.T) {
	texts(t, shop, shop, yes)
	texts(t, shop, `schema other;
enum color { red = 1; green = 3; none = 0; blue = 7; }
message thing { bytes image = 3; optional thing piece = 5; text title = 1; color col = 4; int64 cost = 2; repeated text note = 77; }
message request { reserved 500, 6, 4; repeated color colours = 3; optional int64 count = 2; text what = 1; int32 page = 5; }
message reply { bool more = 2; repeated thing wares = 1; }
call buy(thing) returns (reply);
call sell(thing) returns (reply);
call find(request) returns (reply);`, yes)
	texts(t, shop, strings.NewReplacer("bytes picture = 3; ", "", "ware { ", "ware { reserved 3; ", "optional int32 many = 2;", "reserved 2;").Replace(shop), yes)
	texts(t, shop, strings.Replace(shop, "message lonely { int64 x = 1; }", "", 1), yes)
}

// P14.1: a schema that check does not say OK of, on either side, and on both.
func TestRefusesSchemas(t *testing.T) {
	good := schema(t, shop)
	for _, turn := range []func(s *api.Schema){
		func(s *api.Schema) { *s = api.Schema{} },
		func(s *api.Schema) { s.Name = "" },
		func(s *api.Schema) { s.Messages = nil },
		func(s *api.Schema) { s.Messages[3].Name = "ask" },
		func(s *api.Schema) { s.Messages[0].Fields[1].Tag = 1 },
		func(s *api.Schema) { s.Messages[0].Fields[0].Label = 0 },
		func(s *api.Schema) { s.Messages[3].Fields[0].Type.Kind = 8 },
		func(s *api.Schema) { s.Messages[1].Fields[0].Type.Name = "x" },
		func(s *api.Schema) { s.Messages[0].Reserved[0] = 0 },
		func(s *api.Schema) { s.Messages[0].Reserved[0] = 501 },
		func(s *api.Schema) { s.Enums[0].Values[0].N = 2 },
		func(s *api.Schema) { s.Methods[0].Out = "colour" },
		func(s *api.Schema) { s.Methods[1].Name = "find" },
		func(s *api.Schema) { s.Methods = make([]api.Method, 7) },
	} {
		bad := deep(good)
		turn(&bad)
		if check.Check(bad) == api.OK {
			t.Fatal("it may be")
		}
		says(t, good, bad, verdict{})
		says(t, bad, good, verdict{})
		says(t, bad, bad, verdict{})
		// Nor is anything else told: neither a method that is gone, nor a tag.
		none := schema(t, "schema s; message m { }")
		says(t, bad, none, verdict{})
		says(t, none, bad, verdict{})
	}
}

// methods is a schema of the messages a, b and c with these methods: pairs with c alone are wrong, if the other one is not c.
func methods(t *testing.T, calls string) api.Schema {
	t.Helper()
	return schema(t, "schema s; message a { text x = 1; } message b { text y = 1; } message c { bytes z = 1; } "+calls)
}

// P14.1: methods: gone, more, in another order, of another In and Out.
func TestMethods(t *testing.T) {
	for _, x := range []struct {
		old, new string
		want     verdict
	}{
		{"", "", yes},
		{"", "call f(a) returns (c);", yes},
		{"call f(a) returns (b);", "", verdict{"f", 0, false}},
		{"call f(a) returns (b);", "call F(a) returns (b);", verdict{"f", 0, false}},
		{"call f(a) returns (b);", "call g(a) returns (b);", verdict{"f", 0, false}},
		{"call f(a) returns (b);", "call g(a) returns (b); call f(a) returns (b);", yes},
		{"call f(a) returns (b); call g(a) returns (b);", "call g(a) returns (b); call f(a) returns (b);", yes},
		{"call f(a) returns (b); call g(a) returns (b);", "call g(a) returns (b); call h(a) returns (b);", verdict{"f", 0, false}},
		{"call f(a) returns (b); call g(a) returns (b);", "call f(a) returns (b); call h(a) returns (b);", verdict{"g", 0, false}},
		{"call f(a) returns (b); call g(a) returns (b);", "call h(a) returns (b);", verdict{"f", 0, false}},
		{"call h(a) returns (b); call g(a) returns (b); call f(a) returns (b); call e(a) returns (b);", "call h(a) returns (b);", verdict{"g", 0, false}},
		// Other messages of the same form.
		{"call f(a) returns (b);", "call f(b) returns (a);", yes},
		{"call f(a) returns (b);", "call f(a) returns (a);", yes},
		{"call f(a) returns (b);", "call f(b) returns (b);", yes},
		// Ones of another form.
		{"call f(a) returns (b);", "call f(c) returns (b);", verdict{"a", 1, false}},
		{"call f(a) returns (b);", "call f(a) returns (c);", verdict{"b", 1, false}},
		{"call f(a) returns (b);", "call f(c) returns (c);", verdict{"a", 1, false}},
		{"call f(c) returns (b);", "call f(c) returns (c);", verdict{"b", 1, false}},
		{"call f(c) returns (c);", "call f(c) returns (a);", verdict{"c", 1, false}},
		// In the order of the old one's methods, not of the new one's.
		{"call f(a) returns (a); call g(b) returns (b);", "call g(c) returns (b); call f(c) returns (a);", verdict{"a", 1, false}},
		{"call g(b) returns (b); call f(a) returns (a);", "call f(c) returns (a); call g(c) returns (b);", verdict{"b", 1, false}},
		{"call f(a) returns (b); call g(a) returns (a);", "call f(a) returns (c); call g(c) returns (a);", verdict{"b", 1, false}},
		// One that is gone is told ahead of each pair.
		{"call f(a) returns (b); call g(a) returns (b);", "call f(c) returns (c);", verdict{"g", 0, false}},
		{"call f(a) returns (b); call g(a) returns (b); call h(b) returns (a);", "call f(c) returns (c); call g(c) returns (c);", verdict{"h", 0, false}},
	} {
		old, new := methods(t, x.old), methods(t, x.new)
		says(t, old, new, x.want)
		is(t, old, new)
	}
}

// P14.1: messages that no method reaches are not looked at.
func TestNotReached(t *testing.T) {
	const m, f = "message m { int32 a = 1; } ", "call f(m) returns (m);"
	texts(t, "schema s; "+m+"message n { int32 a = 1; }"+f, "schema s; "+m+"message n { text a = 1; }"+f, yes)
	texts(t, "schema s; "+m+"message n { int32 a = 1; }"+f, "schema s; "+m+f, yes)
	texts(t, "schema s; "+m+f, "schema s; "+m+"message n { int32 a = 1; }"+f, yes)
	texts(t, "schema s; "+m, "schema s; message m { text a = 1; }", yes)
	texts(t, "schema s; "+m, "schema s; message n { }", yes)
	texts(t, "schema s; "+m+"message n { int32 a = 1; m b = 2; }"+f, "schema s; "+m+"message n { }"+f, yes)
	// What is behind a field that is reserved now, or that is new, is not reached by it.
	texts(t, "schema s; message m { n a = 1; } message n { int32 a = 1; }"+f, "schema s; message m { reserved 1; } message n { text a = 1; }"+f, yes)
	texts(t, "schema s; message m { } message n { int32 a = 1; }"+f, "schema s; message m { n a = 1; } message n { text a = 1; }"+f, yes)
	// A method of the new one alone reaches nothing.
	texts(t, "schema s; "+m+"message n { int32 a = 1; }"+f, "schema s; "+m+"message n { text a = 1; } call g(n) returns (n);"+f, yes)
}

// one is a schema with one message m, of one method, in which that stands.
func one(t *testing.T, body string) api.Schema {
	t.Helper()
	return schema(t, "schema s; message m { "+body+" } message n { } message o { int32 a = 1; } enum e { zero = 0; nine = 9; } enum wide { zero = 0; one = 1; nine = 9; } call f(m) returns (m);")
}

// P14.1: what may stand at a tag behind what stood there, at the least tag, the greatest one, and between.
func TestTag(t *testing.T) {
	for _, tag := range []int{1, 2, 255, 256, 499, 500} {
		for _, x := range []struct {
			old, new string
			ok       bool
		}{
			{"", "", true},
			{"", "reserved 7;", true},
			{"", "int32 x = 7;", true},
			{"reserved 7;", "reserved 7;", true},
			{"reserved 7;", "", false},
			{"reserved 7;", "int32 x = 7;", false},
			{"reserved 7;", "optional m x = 7;", false},
			{"int32 x = 7;", "reserved 7;", true},
			{"int32 x = 7;", "", false},
			{"int32 x = 7;", "int32 x = 7;", true},
			{"int32 x = 7;", "int32 y = 7;", true},
			{"int32 x = 7;", "int64 y = 7;", true},
			{"int64 x = 7;", "int32 x = 7;", false},
			{"int32 x = 7;", "bool x = 7;", false},
			{"int32 x = 7;", "optional int32 x = 7;", false},
			{"int32 x = 7;", "repeated int32 x = 7;", false},
			{"optional int32 x = 7;", "int32 x = 7;", false},
			{"optional int32 x = 7;", "repeated int32 x = 7;", false},
			{"optional int32 x = 7;", "optional int64 x = 7;", true},
			{"repeated int32 x = 7;", "optional int32 x = 7;", false},
			{"repeated int32 x = 7;", "int64 x = 7;", false},
			{"repeated int32 x = 7;", "repeated int64 x = 7;", true},
			{"optional text x = 7;", "reserved 7;", true},
			{"repeated e x = 7;", "repeated wide y = 7;", true},
			{"repeated wide x = 7;", "repeated e y = 7;", false},
			{"wide x = 7;", "reserved 7;", true},
			{"n x = 7;", "o x = 7;", true},
			{"n x = 7;", "e x = 7;", false},
			{"e x = 7;", "n x = 7;", false},
			{"o x = 7;", "reserved 7;", true},
			{"o x = 7;", "optional o x = 7;", false},
		} {
			want := yes
			if !x.ok {
				want = verdict{"m", tag, false}
			}
			put := strings.NewReplacer("7", fmt.Sprint(tag))
			old, new := one(t, put.Replace(x.old)), one(t, put.Replace(x.new))
			says(t, old, new, want)
			is(t, old, new)
		}
	}
	// A field that has gone on to another tag is gone.
	says(t, one(t, "int32 x = 7;"), one(t, "int32 x = 8;"), verdict{"m", 7, false})
	says(t, one(t, "int32 x = 7;"), one(t, "int32 x = 6; reserved 7;"), yes)
	says(t, one(t, "int32 x = 7; int32 y = 8;"), one(t, "int32 y = 7; int32 x = 8;"), yes)
	says(t, one(t, "int32 x = 7; text y = 8;"), one(t, "text y = 7; int32 x = 8;"), verdict{"m", 7, false})
}

// P14.1: of several tags that are wrong the least one is told, in whatever order they stand, and whether fields or reserved ones.
func TestFirstTag(t *testing.T) {
	fields := []string{"int32 a = 3;", "text b = 500;", "reserved 7;", "optional bool c = 11;", "reserved 499, 2;"}
	for i, body := range fields {
		least := []int{3, 500, 7, 11, 2}[i]
		says(t, one(t, body), one(t, ""), verdict{"m", least, false})
		for j, other := range fields {
			if i != j {
				both := min(least, []int{3, 500, 7, 11, 2}[j])
				says(t, one(t, body+other), one(t, ""), verdict{"m", both, false})
				says(t, one(t, body+other), one(t, body), is(t, one(t, other), one(t, "")))
				says(t, one(t, body+other), one(t, "reserved "+fmt.Sprint(both)+";"+strings.ReplaceAll("text c = 9;", "9", "12")), is(t, one(t, body+other), one(t, fmt.Sprintf("reserved %d;", both))))
			}
		}
	}
	says(t, one(t, "reserved 9, 5, 7; int32 x = 6; int32 y = 4; int32 z = 8;"), one(t, ""), verdict{"m", 4, false})
	says(t, one(t, "reserved 9, 5, 7; int32 x = 6; int32 y = 4; int32 z = 8;"), one(t, "int64 y = 4;"), verdict{"m", 5, false})
	says(t, one(t, "reserved 9, 5, 7; int32 x = 6; int32 y = 4; int32 z = 8;"), one(t, "int64 y = 4; reserved 5;"), verdict{"m", 6, false})
	says(t, one(t, "reserved 9, 5, 7; int32 x = 6; int32 y = 4; int32 z = 8;"), one(t, "reserved 4, 5, 6;"), verdict{"m", 7, false})
	says(t, one(t, "reserved 9, 5, 7; int32 x = 6; int32 y = 4; int32 z = 8;"), one(t, "reserved 4, 6, 7, 5;"), verdict{"m", 8, false})
	says(t, one(t, "reserved 9, 5, 7; int32 x = 6; int32 y = 4; int32 z = 8;"), one(t, "reserved 4, 6, 7, 5, 8;"), verdict{"m", 9, false})
	says(t, one(t, "reserved 9, 5, 7; int32 x = 6; int32 y = 4; int32 z = 8;"), one(t, "reserved 4, 6, 7, 5, 8, 9;"), yes)
}

// P14.1: of wrong pairs the first one is told: methods' ahead of fields', and those of a message behind all that are there.
func TestFirstPair(t *testing.T) {
	const old = `schema s;
message a { c x = 2; b y = 1; int32 z = 9; }
message b { d x = 1; int32 z = 9; }
message c { e x = 1; int32 z = 9; }
message d { f x = 1; int32 z = 9; }
message e { int32 z = 9; }
message f { int32 z = 9; }
message g { int32 z = 9; }
call first(a) returns (g);
call second(g) returns (g);`
	// By rising tags b comes ahead of c, and what is in b behind c.
	order := []string{"a", "g", "b", "c", "d", "e", "f"}
	for set := range 1 << len(order) {
		s, want := schema(t, old), yes
		for i := len(order) - 1; i >= 0; i-- {
			if set>>i&1 == 1 {
				want = verdict{order[i], 9, false}
			}
		}
		for i, m := range s.Messages {
			if at := slices.Index(order, m.Name); set>>at&1 == 1 {
				s.Messages[i].Fields = m.Fields[:len(m.Fields)-1]
			}
		}
		says(t, schema(t, old), s, want)
	}
}

// P14.1: one message of the old schema with two of the new one's: each pair is looked at.
func TestOneWithTwo(t *testing.T) {
	const m = "message m { n a = 1; n b = 2; } "
	const split = "message m { x a = 1; y b = 2; } "
	old := "schema s; " + m + "message n { int32 a = 1; text b = 2; } call f(m) returns (m);"
	for _, x := range []struct {
		x, y string
		want verdict
	}{
		{"int32 a = 1; text b = 2;", "int64 a = 1; text b = 2;", yes},
		{"int32 a = 1;", "int32 a = 1; text b = 2;", verdict{"n", 2, false}},
		{"int32 a = 1; text b = 2;", "text b = 2;", verdict{"n", 1, false}},
		{"int32 a = 1;", "text b = 2;", verdict{"n", 2, false}},
		{"text b = 2;", "int32 a = 1;", verdict{"n", 1, false}},
	} {
		texts(t, old, "schema s; "+split+"message x { "+x.x+" } message y { "+x.y+" } call f(m) returns (m);", x.want)
	}
	// Two with one.
	for _, x := range []struct {
		x, y, n string
		want    verdict
	}{
		{"int32 a = 1;", "text b = 2;", "int32 a = 1; text b = 2;", yes},
		{"int32 a = 1;", "text b = 2;", "int32 a = 1;", verdict{"y", 2, false}},
		{"int32 a = 1;", "text b = 2;", "text b = 2;", verdict{"x", 1, false}},
		{"int32 a = 1;", "text b = 1;", "int32 a = 1;", verdict{"y", 1, false}},
		{"int32 a = 1;", "text b = 1;", "text a = 1;", verdict{"x", 1, false}},
		{"int32 a = 1;", "int64 b = 1;", "int64 a = 1;", yes},
		{"int32 a = 1;", "reserved 2;", "int32 a = 1;", verdict{"y", 2, false}},
	} {
		texts(t, "schema s; "+split+"message x { "+x.x+" } message y { "+x.y+" } call f(m) returns (m);", "schema s; "+m+"message n { "+x.n+" } call f(m) returns (m);", x.want)
	}
	// By methods too.
	const calls, one = "call f(x) returns (x); call g(y) returns (y);", "call f(n) returns (n); call g(n) returns (n);"
	const xy, n = "schema s; message x { int32 a = 1; } message y { text b = 2; } ", "schema s; message n { int32 a = 1; text b = 2; } "
	texts(t, xy+calls, n+one, yes)
	texts(t, n+one, xy+calls, verdict{"n", 2, false})
	texts(t, n+one, xy+"call f(y) returns (x); call g(y) returns (y);", verdict{"n", 1, false})
	// A message of the old schema, with its own name and with another one.
	texts(t, "schema s; message m { optional m a = 1; text b = 2; } call f(m) returns (m);", "schema s; message m { optional n a = 1; text b = 2; } message n { optional m a = 1; text c = 2; } call f(m) returns (m);", yes)
	texts(t, "schema s; message m { optional m a = 1; text b = 2; } call f(m) returns (m);", "schema s; message m { optional n a = 1; text b = 2; } message n { optional m a = 1; } call f(m) returns (m);", verdict{"m", 2, false})
}

// P14.1: messages that lead back to themselves, and to each other.
func TestRounds(t *testing.T) {
	texts(t, "schema s; message m { m a = 1; } call f(m) returns (m);", "schema s; message m { m a = 1; } call f(m) returns (m);", yes)
	// Rounds of three, held against rounds of two, meet in six pairs.
	const three = "schema s; message a { b x = 1; } message b { c x = 1; } message c { a x = 1; } call f(a) returns (a);"
	const two = "schema s; message a { b x = 1; } message b { a x = 1; } call f(a) returns (a);"
	texts(t, three, three, yes)
	texts(t, three, two, yes)
	texts(t, two, three, yes)
	// The last one of those: the old c with the new b.
	texts(t, strings.Replace(three, "c { ", "c { int32 y = 2; ", 1), strings.Replace(two, "a { ", "a { int32 y = 2; ", 1), verdict{"c", 2, false})
	texts(t, strings.Replace(three, "c { ", "c { int32 y = 2; ", 1), strings.ReplaceAll(two, " { b", " { int32 y = 2; b"), verdict{"c", 2, false})
	texts(t, strings.Replace(three, "c { ", "c { int32 y = 2; ", 1), strings.NewReplacer(" { b", " { int32 y = 2; b", " { a", " { int32 z = 2; a").Replace(two), yes)
}

// round is a schema of n messages that lead round, in each of which stands that tag of that label.
func round(n, label int, extra ...api.Field) api.Schema {
	s := api.Schema{Name: "s", Methods: []api.Method{{Name: "f", In: "m0", Out: "m0"}}}
	for i := range n {
		next := api.Field{Name: "next", Tag: 1, Label: label, Type: api.Type{Kind: api.Msg, Name: fmt.Sprint("m", (i+1)%n)}}
		s.Messages = append(s.Messages, api.Message{Name: fmt.Sprint("m", i), Fields: append([]api.Field{next}, extra...)})
	}
	return s
}

// P14.1: as many messages as may be, of which every pair comes; the last one is wrong.
func TestAllPairs(t *testing.T) {
	x := api.Field{Name: "x", Tag: 2, Label: api.Optional, Type: api.Type{Kind: api.Int32}}
	// Each of ten, with each of nine.
	old, new := round(10, api.Repeated, x), round(9, api.Repeated, x)
	says(t, old, new, yes)
	says(t, new, old, yes)
	new.Messages[8].Fields[1].Label = api.One
	says(t, old, new, verdict{"m8", 2, false})
	old.Messages[8].Fields = old.Messages[8].Fields[:1]
	says(t, old, new, verdict{"m7", 2, false})
	// The 90th pair is the old m9 with the new m8.
	for i := range old.Messages[:9] {
		old.Messages[i].Fields = old.Messages[i].Fields[:1]
	}
	says(t, old, new, verdict{"m9", 2, false})
	old.Messages[9].Fields[1].Label = api.One
	says(t, old, new, verdict{"m9", 2, false})
	for i := range new.Messages {
		new.Messages[i].Fields[1].Label = api.One
	}
	says(t, old, new, yes)
}

// full is a schema with as much of each as may be: each message has fields of all ten.
func full() api.Schema {
	s := api.Schema{Name: "s"}
	for i := range api.MaxMessages {
		m := api.Message{Name: fmt.Sprint("m", i)}
		for j := range api.MaxFields {
			f := api.Field{Name: fmt.Sprint("f", j), Tag: api.MaxTag - 3*j, Label: api.One + j%3, Type: api.Type{Kind: api.Msg, Name: fmt.Sprint("m", (i*j+j)%api.MaxMessages)}}
			if j >= api.MaxMessages {
				f.Type = api.Type{Kind: api.Enum, Name: fmt.Sprint("e", j-api.MaxMessages)}
			}
			m.Fields = append(m.Fields, f)
		}
		for j := range api.MaxReserved {
			m.Reserved = append(m.Reserved, 2*j+1)
		}
		s.Messages = append(s.Messages, m)
	}
	for i := range api.MaxEnums {
		x := api.Enumeration{Name: fmt.Sprint("e", i)}
		for j := range api.MaxValues {
			x.Values = append(x.Values, api.Named{Name: fmt.Sprint("v", j), N: j})
		}
		s.Enums = append(s.Enums, x)
		s.Methods = append(s.Methods, api.Method{Name: fmt.Sprint("c", i), In: fmt.Sprint("m", i), Out: fmt.Sprint("m", i+1)})
	}
	return s
}

// P14.1: as much of each as may be.
func TestFull(t *testing.T) {
	s := full()
	says(t, s, s, yes)
	for i := range s.Messages {
		x := deep(s)
		x.Messages[i].Fields = x.Messages[i].Fields[:15]
		if got := is(t, s, x); got.ok || got.tag != 455 {
			t.Fatal(got)
		}
		x = deep(s)
		x.Messages[i].Reserved = x.Messages[i].Reserved[:31]
		if got := is(t, s, x); got.ok || got.tag != 63 {
			t.Fatal(got)
		}
		is(t, x, s)
	}
	s.Enums[5].Values[15].Name = "w"
	if got := is(t, full(), s); got.ok || got.tag != 455 {
		t.Fatal(got)
	}
}

// P14.2: each two kinds, those that are none too, both ways; names of what is no enumeration say nothing.
func TestFitsKinds(t *testing.T) {
	s := one(t, "")
	kinds := []int{math.MinInt, -1, 0, 1, 2, 3, 4, 5, 7, 8, 1 << 32, 1<<32 + 1, 1<<32 + 2, 1<<32 + 6, math.MaxInt}
	for _, a := range kinds {
		for _, b := range kinds {
			want := a == b || a == 1 && b == 2
			for _, x := range []string{"", "m", "e", "none", "zero"} {
				for _, y := range []string{"", "m", "n", "wide"} {
					fits(t, s, s, api.Type{Kind: a, Name: x}, api.Type{Kind: b, Name: y}, want)
				}
			}
		}
		for _, name := range []string{"", "e", "m", "wide"} {
			fits(t, s, s, api.Type{Kind: 6, Name: "e"}, api.Type{Kind: a, Name: name}, false)
			fits(t, s, s, api.Type{Kind: a, Name: name}, api.Type{Kind: 6, Name: "e"}, false)
		}
	}
}

// fits ends the test, if Fits does not answer want, twice, or turns what is handed in.
func fits(t *testing.T, old, new api.Schema, a, b api.Type, want bool) {
	t.Helper()
	x, y := deep(old), deep(new)
	for range 2 {
		if compat.Fits(old, new, a, b) != want {
			t.Fatalf("Fits(%s, %s, %+v, %+v): %v", short(old.Enums), short(new.Enums), a, b, !want)
		}
	}
	if short(x) != short(old) || short(y) != short(new) {
		t.Fatalf("Fits turned %s to %s, %s to %s", short(x), short(old), short(y), short(new))
	}
}

// enums is a schema of those enumerations alone: check asks for a message, Fits does not.
func enums(l ...api.Enumeration) api.Schema { return api.Schema{Enums: l} }

func values(name string, l ...api.Named) api.Enumeration {
	return api.Enumeration{Name: name, Values: l}
}

// P14.2: enumerations.
func TestFitsEnums(t *testing.T) {
	a, b, c := api.Named{Name: "a", N: 0}, api.Named{Name: "b", N: 1}, api.Named{Name: "c", N: math.MaxInt32}
	e, f := api.Type{Kind: api.Enum, Name: "e"}, api.Type{Kind: api.Enum, Name: "f"}
	for _, x := range []struct {
		old, new []api.Named
		want     bool
	}{
		{[]api.Named{a}, []api.Named{a}, true},
		{[]api.Named{a, b, c}, []api.Named{a, b, c}, true},
		{[]api.Named{a, b, c}, []api.Named{c, a, b}, true},
		// A value more, one less.
		{[]api.Named{a, b}, []api.Named{a, b, c}, true},
		{[]api.Named{a, c}, []api.Named{c, b, a}, true},
		{[]api.Named{a, b, c}, []api.Named{a, b}, false},
		{[]api.Named{a, b, c}, []api.Named{b, c}, false},
		{[]api.Named{a, b, c}, []api.Named{a, c}, false},
		// Another name at a number, a name at another number.
		{[]api.Named{a, b}, []api.Named{a, {Name: "c", N: 1}}, false},
		{[]api.Named{a, b}, []api.Named{a, {Name: "B", N: 1}}, false},
		{[]api.Named{a, b}, []api.Named{a, {Name: "b", N: 2}}, false},
		{[]api.Named{a, b}, []api.Named{{Name: "a", N: 1}, {Name: "b", N: 0}}, false},
		{[]api.Named{a, b}, []api.Named{a, {Name: "c", N: 1}, {Name: "b", N: 2}}, false},
		{[]api.Named{a, c}, []api.Named{a, {Name: "c", N: 1<<32 + math.MaxInt32}}, false},
		// None at all.
		{nil, nil, true},
		{nil, []api.Named{a}, true},
		{[]api.Named{}, []api.Named{b}, true},
		{[]api.Named{a}, nil, false},
		// What may not be, but is taken here: numbers and names that are there twice.
		{[]api.Named{a, a, b}, []api.Named{b, a}, true},
		{[]api.Named{a, {Name: "b", N: 0}}, []api.Named{a}, false},
		{[]api.Named{a}, []api.Named{{Name: "b", N: 0}, a}, true},
		{[]api.Named{{Name: "", N: -1}}, []api.Named{{Name: "", N: -1}}, true},
		{[]api.Named{{Name: "", N: math.MinInt}}, []api.Named{{Name: "", N: math.MaxInt}}, false},
	} {
		fits(t, enums(values("e", x.old...)), enums(values("e", x.new...)), e, e, x.want)
		fits(t, enums(values("e", x.old...)), enums(values("f", x.new...)), e, f, x.want)
		fits(t, enums(values("f", a, b, c), values("e", x.old...)), enums(values("e", a, b, c), values("f", x.new...)), e, f, x.want)
		// The first one of that name.
		fits(t, enums(values("e", x.old...), values("e", b)), enums(values("f", x.new...), values("f", a, b, c)), e, f, x.want)
	}
}

// P14.2: an enumeration that is none, in the old schema, in the new one, in both.
func TestFitsNone(t *testing.T) {
	s := one(t, "")
	none := api.Schema{}
	e := api.Type{Kind: api.Enum, Name: "e"}
	fits(t, s, s, e, e, true)
	for _, name := range []string{"", "E", "m", "s", "zero", "f", "e "} {
		x := api.Type{Kind: api.Enum, Name: name}
		fits(t, s, s, e, x, false)
		fits(t, s, s, x, e, false)
		fits(t, s, s, x, x, false)
	}
	fits(t, none, s, e, e, false)
	fits(t, s, none, e, e, false)
	fits(t, none, none, e, e, false)
	// One that is there, without a value, is one.
	fits(t, enums(values("e")), none, e, e, false)
	fits(t, none, enums(values("e")), e, e, false)
	fits(t, enums(values("e")), enums(values("e")), e, e, true)
	fits(t, none, none, api.Type{}, api.Type{}, true)
	fits(t, none, none, api.Type{Kind: api.Int32}, api.Type{Kind: api.Int64}, true)
	fits(t, none, none, api.Type{Kind: api.Msg, Name: "x"}, api.Type{Kind: api.Msg}, true)
}

// R1: enumerations of any length end, too.
func TestFitsLong(t *testing.T) {
	const n = 1 << 18
	l := make([]api.Named, n)
	for i := range l {
		l[i] = api.Named{Name: "a", N: i}
	}
	back := slices.Clone(l)
	slices.Reverse(back)
	e := api.Type{Kind: api.Enum, Name: "e"}
	old, new := enums(values("e", l...)), enums(values("e", back...))
	if !compat.Fits(old, new, e, e) {
		t.Fatal("they are one")
	}
	new.Enums[0].Values = back[:n-1]
	if compat.Fits(old, new, e, e) || !compat.Fits(new, old, e, e) {
		t.Fatal("one is less")
	}
}
