package print_test

import (
	"fmt"
	"math"
	"math/rand"
	"reflect"
	"slices"
	"strings"
	"testing"

	"concordat/api"
	"concordat/check"
	"concordat/idl"
	"concordat/print"
)

func short(x any) string {
	s := strings.ToValidUTF8(fmt.Sprintf("%+v", x), "?")
	if len(s) > 600 {
		return s[:600] + ".."
	}
	return s
}

// deep is s in memory of its own; empty lists stay what they are.
func deep(s api.Schema) api.Schema {
	s.Messages, s.Enums, s.Methods = slices.Clone(s.Messages), slices.Clone(s.Enums), slices.Clone(s.Methods)
	for i, m := range s.Messages {
		s.Messages[i].Fields, s.Messages[i].Reserved = slices.Clone(m.Fields), slices.Clone(m.Reserved)
	}
	for i, x := range s.Enums {
		s.Enums[i].Values = slices.Clone(x.Values)
	}
	return s
}

// bare is s with nil for every empty list: they are one.
func bare(s api.Schema) api.Schema {
	s = deep(s)
	if len(s.Messages) == 0 {
		s.Messages = nil
	}
	if len(s.Enums) == 0 {
		s.Enums = nil
	}
	if len(s.Methods) == 0 {
		s.Methods = nil
	}
	for i, m := range s.Messages {
		if len(m.Fields) == 0 {
			s.Messages[i].Fields = nil
		}
		if len(m.Reserved) == 0 {
			s.Messages[i].Reserved = nil
		}
	}
	for i, x := range s.Enums {
		if len(x.Values) == 0 {
			s.Enums[i].Values = nil
		}
	}
	return s
}

func equal(a, b api.Schema) bool { return reflect.DeepEqual(bare(a), bare(b)) }

// canonIs ends the test, if Canon(s) is not want, or turns s.
func canonIs(t *testing.T, s, want api.Schema) {
	t.Helper()
	before := deep(s)
	if got := print.Canon(s); !equal(got, want) {
		t.Fatalf("Canon(%s): %s; want %s", short(s), short(got), short(want))
	}
	if !reflect.DeepEqual(s, before) {
		t.Fatalf("Canon turned %s to %s", short(before), short(s))
	}
	if got := print.Canon(want); !equal(got, want) {
		t.Fatalf("Canon of Canon, of %s: %s", short(want), short(got))
	}
}

// printIs ends the test, if Print(s) is not want, or turns s, or is not the
// text of s in order.
func printIs(t *testing.T, s api.Schema, want string) {
	t.Helper()
	before := deep(s)
	if got := print.Print(s); got != want {
		t.Fatalf("Print(%s): %q; want %q", short(s), got, want)
	}
	if !reflect.DeepEqual(s, before) {
		t.Fatalf("Print turned %s to %s", short(before), short(s))
	}
	if got := print.Print(canonOf(s)); got != want {
		t.Fatalf("Print of Canon, of %s: %q; want %q", short(s), got, want)
	}
}

// readIs ends the test, if Read(text) is not these three.
func readIs(t *testing.T, text string, want api.Schema, at int, e api.Errno) {
	t.Helper()
	s, a, f := print.Read(text)
	if a != at || f != e || !equal(s, want) {
		t.Fatalf("Read(%s): %s, %d, %v; want %s, %d, %v", short(text), short(s), a, f, short(want), at, e)
	}
}

// sameIs ends the test, if Same of both, either way, is not want, or turns one.
func sameIs(t *testing.T, a, b api.Schema, want bool) {
	t.Helper()
	x, y := deep(a), deep(b)
	if print.Same(a, b) != want || print.Same(b, a) != want {
		t.Fatalf("Same(%s, %s): not %v", short(a), short(b), want)
	}
	if !reflect.DeepEqual(a, x) || !reflect.DeepEqual(b, y) {
		t.Fatalf("Same turned %s or %s", short(x), short(y))
	}
}

func kind(k int) api.Type { return api.Type{Kind: k} }

func named(k int, name string) api.Type { return api.Type{Kind: k, Name: name} }

// one is a schema of one message m with these fields.
func one(l ...api.Field) api.Schema {
	return api.Schema{Name: "s", Messages: []api.Message{{Name: "m", Fields: l}}}
}

func field(name string, tag int) api.Field {
	return api.Field{Name: name, Tag: tag, Label: api.One, Type: kind(api.Int32)}
}

// reserved is a schema of one message with these numbers reserved.
func reserved(l ...int) api.Schema {
	s := one()
	s.Messages[0].Reserved = l
	return s
}

// values is a schema of one empty message and one enumeration with these values.
func values(l ...api.Named) api.Schema {
	s := one()
	s.Enums = []api.Enumeration{{Name: "e", Values: l}}
	return s
}

// methods is a schema of one empty message with these methods.
func methods(l ...api.Method) api.Schema {
	s := one()
	s.Methods = l
	return s
}

// shop is a schema that may be, out of order; shopText is its text.
func shop() api.Schema {
	return api.Schema{
		Name: "laden",
		Messages: []api.Message{
			{Name: "ware", Reserved: []int{4, 500, 17}, Fields: []api.Field{
				{Name: "nummer", Tag: 10, Label: api.One, Type: kind(api.Int32)},
				{Name: "farbe", Tag: 499, Label: api.Repeated, Type: named(api.Enum, "farbe")},
				{Name: "zu", Tag: 9, Label: api.Optional, Type: named(api.Msg, "frage")},
			}},
			{Name: "frage", Reserved: []int{1}, Fields: []api.Field{
				{Name: "größe", Tag: 500, Label: api.Optional, Type: kind(api.Int64)},
				{Name: "bild", Tag: 4, Label: api.One, Type: kind(api.Bytes)},
				{Name: "da", Tag: 2, Label: api.Repeated, Type: kind(api.Bool)},
				{Name: "name", Tag: 3, Label: api.One, Type: kind(api.Text)},
			}},
			{Name: "letzte"},
			{Name: "alte", Reserved: []int{3, 2}},
		},
		Enums: []api.Enumeration{
			{Name: "farbe", Values: []api.Named{{Name: "rot", N: math.MaxInt32}, {Name: "blau", N: 0}, {Name: "grün", N: 1}}},
			{Name: "art", Values: []api.Named{{Name: "rot", N: 0}}},
		},
		Methods: []api.Method{{Name: "zeige", In: "frage", Out: "ware"}, {Name: "hole", In: "letzte", Out: "letzte"}},
	}
}

const shopText = `schema laden;
message ware {
  optional frage zu = 9;
  int32 nummer = 10;
  repeated farbe farbe = 499;
  reserved 4, 17, 500;
}
message frage {
  repeated bool da = 2;
  text name = 3;
  bytes bild = 4;
  optional int64 größe = 500;
  reserved 1;
}
message letzte {
}
message alte {
  reserved 2, 3;
}
enum farbe {
  blau = 0;
  grün = 1;
  rot = 2147483647;
}
enum art {
  rot = 0;
}
call zeige(frage) returns (ware);
call hole(letzte) returns (letzte);
`

// P8.2, P8.3: the chapter's example.
func TestExample(t *testing.T) {
	s := api.Schema{Name: "a", Messages: []api.Message{{Name: "m", Fields: []api.Field{field("x", 1)}}}}
	text := "schema a;\nmessage m {\n  int32 x = 1;\n}\n"
	printIs(t, s, text)
	readIs(t, text, s, 0, api.OK)
}

// P8.1 to P8.4: a schema with something of each kind.
func TestShop(t *testing.T) {
	canonIs(t, shop(), canonOf(shop()))
	printIs(t, shop(), shopText)
	readIs(t, shopText, canonOf(shop()), 0, api.OK)
	sameIs(t, shop(), print.Canon(shop()), true)
	if check.Check(shop()) != api.OK {
		t.Fatal("shop may not be")
	}
}

// P8.1, P8.2: the zero schema, and lists that are empty, nil or not.
func TestZero(t *testing.T) {
	canonIs(t, api.Schema{}, api.Schema{})
	printIs(t, api.Schema{}, "schema ;\n")
	sameIs(t, api.Schema{}, api.Schema{}, true)
	empty := api.Schema{
		Messages: []api.Message{{Fields: []api.Field{}, Reserved: []int{}}, {}},
		Enums:    []api.Enumeration{{Values: []api.Named{}}, {}},
		Methods:  []api.Method{{}},
	}
	canonIs(t, empty, empty)
	printIs(t, empty, "schema ;\nmessage  {\n}\nmessage  {\n}\nenum  {\n}\nenum  {\n}\ncall () returns ();\n")
	none := api.Schema{Messages: []api.Message{}, Enums: []api.Enumeration{}, Methods: []api.Method{}}
	printIs(t, none, "schema ;\n")
	sameIs(t, none, api.Schema{}, true)
	printIs(t, one(api.Field{}), "schema s;\nmessage m {\n    = 0;\n}\n")
	printIs(t, values(api.Named{}), "schema s;\nmessage m {\n}\nenum e {\n   = 0;\n}\n")
}

// P8.2: the line of a field, of each label and each type.
func TestFieldLines(t *testing.T) {
	labels := map[int]string{api.One: "", api.Optional: "optional ", api.Repeated: "repeated ", 0: "", -1: "", 4: "", math.MaxInt: "", math.MinInt: ""}
	types := map[api.Type]string{
		kind(api.Int32): "int32", kind(api.Int64): "int64", kind(api.Bool): "bool", kind(api.Text): "text", kind(api.Bytes): "bytes",
		named(api.Enum, "e"): "e", named(api.Msg, "größe"): "größe",
		// None of these may be: a scalar's word stands even so, else the name.
		named(api.Int32, "k"): "int32", named(api.Bytes, "text"): "bytes",
		kind(api.Enum): "", kind(api.Msg): "", named(api.Msg, "int64"): "int64",
		named(0, "k"): "k", named(8, "k"): "k", named(-1, "k"): "k", named(math.MaxInt, "k"): "k", named(math.MinInt, ""): "",
		named(api.Msg, "a b"): "a b", named(api.Enum, "\xff\n"): "\xff\n",
	}
	for l, label := range labels {
		for k, word := range types {
			s := one(api.Field{Name: "x", Tag: 12, Label: l, Type: k})
			printIs(t, s, "schema s;\nmessage m {\n  "+label+word+" x = 12;\n}\n")
		}
	}
}

// P8.2: messages without fields, with reserved numbers alone, with one and with several.
func TestReservedLines(t *testing.T) {
	for _, c := range []struct {
		s     api.Schema
		lines string
	}{
		{reserved(), ""},
		{reserved(7), "  reserved 7;\n"},
		{reserved(9, 7), "  reserved 7, 9;\n"},
		{reserved(500, 9, 10, 1), "  reserved 1, 9, 10, 500;\n"},
		{reserved(3, 1, 3), "  reserved 1, 3, 3;\n"},
		{reserved(math.MaxInt, 0, -1, math.MinInt), "  reserved -9223372036854775808, -1, 0, 9223372036854775807;\n"},
	} {
		printIs(t, c.s, "schema s;\nmessage m {\n"+c.lines+"}\n")
		c.s.Messages[0].Fields = []api.Field{field("y", 600), field("x", 2)}
		printIs(t, c.s, "schema s;\nmessage m {\n  int32 x = 2;\n  int32 y = 600;\n"+c.lines+"}\n")
	}
}

// P8.2: lines of enumerations and methods.
func TestEnumAndCallLines(t *testing.T) {
	head := "schema s;\nmessage m {\n}\n"
	printIs(t, values(), head+"enum e {\n}\n")
	printIs(t, values(api.Named{Name: "b", N: 10}, api.Named{Name: "a", N: 9}), head+"enum e {\n  a = 9;\n  b = 10;\n}\n")
	printIs(t, values(api.Named{Name: "a", N: math.MaxInt}, api.Named{Name: "b", N: math.MinInt}, api.Named{Name: "c", N: -1}),
		head+"enum e {\n  b = -9223372036854775808;\n  c = -1;\n  a = 9223372036854775807;\n}\n")
	printIs(t, methods(api.Method{Name: "z", In: "m", Out: "n"}, api.Method{Name: "a", In: "o", Out: "m"}),
		head+"call z(m) returns (n);\ncall a(o) returns (m);\n")
}

// P8.2: names that are none stand as they are.
func TestAnyNames(t *testing.T) {
	for _, n := range []string{"", " ", "text", "a b", "}\n", "%d", "{{.}}", "\xff", "\x00", "€", strings.Repeat("x", 1000)} {
		s := api.Schema{
			Name:     n,
			Messages: []api.Message{{Name: n, Fields: []api.Field{{Name: n, Tag: 1, Type: named(api.Msg, n)}}}},
			Enums:    []api.Enumeration{{Name: n, Values: []api.Named{{Name: n, N: 5}}}},
			Methods:  []api.Method{{Name: n, In: n, Out: n}},
		}
		printIs(t, s, "schema "+n+";\nmessage "+n+" {\n  "+n+" "+n+" = 1;\n}\nenum "+n+" {\n  "+n+" = 5;\n}\ncall "+n+"("+n+") returns ("+n+");\n")
		canonIs(t, s, s)
	}
}

// P8.1: messages, enumerations and methods stay where they are, whatever their
// names are, and each one's parts are put in order.
func TestOrderStays(t *testing.T) {
	s := api.Schema{
		Name:     "s",
		Messages: []api.Message{{Name: "z"}, {Name: "a", Fields: []api.Field{field("b", 2), field("a", 1)}}, {Name: "m", Reserved: []int{2, 1}}, {Name: "a"}},
		Enums:    []api.Enumeration{{Name: "z"}, {Name: "a", Values: []api.Named{{Name: "b", N: 2}, {Name: "a", N: 1}}}},
		Methods:  []api.Method{{Name: "z", In: "z", Out: "a"}, {Name: "a", In: "a", Out: "a"}, {Name: "m", In: "b", Out: "c"}, {Name: "a", In: "a", Out: "a"}},
	}
	want := deep(s)
	want.Messages[1].Fields = []api.Field{field("a", 1), field("b", 2)}
	want.Messages[2].Reserved = []int{1, 2}
	want.Enums[1].Values = []api.Named{{Name: "a", N: 1}, {Name: "b", N: 2}}
	canonIs(t, s, want)
}

// P8.1: a field goes with all it has.
func TestFieldsWhole(t *testing.T) {
	a := api.Field{Name: "a", Tag: 3, Label: api.Repeated, Type: named(api.Msg, "n")}
	b := api.Field{Name: "b", Tag: 2, Label: 9, Type: named(77, "k")}
	c := api.Field{Name: "", Tag: -2, Label: api.Optional, Type: named(api.Bool, "l")}
	for _, l := range [][]api.Field{{a, b, c}, {b, a, c}, {c, a, b}, {a, c, b}, {b, c, a}, {c, b, a}} {
		canonIs(t, one(l...), one(c, b, a))
	}
}

// P8.1: the greatest and smallest numbers that there are.
func TestGreatNumbers(t *testing.T) {
	rising := []int{math.MinInt, math.MinInt + 1, math.MinInt32, -2, -1, 0, 1, 2, 9, 10, 500, 501, math.MaxInt32, math.MaxInt - 1, math.MaxInt}
	r := rand.New(rand.NewSource(8))
	for range 200 {
		var mixed, sorted api.Schema
		mixed, sorted = values(), values()
		for _, i := range r.Perm(len(rising)) {
			n := rising[i]
			mixed.Messages[0].Fields = append(mixed.Messages[0].Fields, field("x", n))
			mixed.Messages[0].Reserved = append(mixed.Messages[0].Reserved, n)
			mixed.Enums[0].Values = append(mixed.Enums[0].Values, api.Named{N: n})
		}
		for _, n := range rising {
			sorted.Messages[0].Fields = append(sorted.Messages[0].Fields, field("x", n))
			sorted.Enums[0].Values = append(sorted.Enums[0].Values, api.Named{N: n})
		}
		sorted.Messages[0].Reserved = rising
		canonIs(t, mixed, sorted)
	}
}

// P8.1: of the same tag or number, in their order; in long lists, too, which
// are often sorted in another way than short ones.
func TestSameNumbersKeepOrder(t *testing.T) {
	r := rand.New(rand.NewSource(81))
	for _, n := range []int{2, 3, 11, 12, 13, 50, 51, 300, 2000} {
		for _, most := range []int{1, 2, 5, n} {
			s := values()
			for i := range n {
				s.Messages[0].Fields = append(s.Messages[0].Fields, field(fmt.Sprint("f", i), r.Intn(most)))
				s.Enums[0].Values = append(s.Enums[0].Values, api.Named{Name: fmt.Sprint("v", i), N: -r.Intn(most)})
			}
			canonIs(t, s, canonOf(s))
			printIs(t, s, textOf(s))
		}
	}
}

// R3: what is handed in is not changed, its spare room neither, and lists that
// stand in it twice are answered apart.
func TestMemory(t *testing.T) {
	fields := []api.Field{field("c", 3), field("b", 2), field("a", 1), field("z", 0)}
	numbers := []int{3, 2, 1, 0}
	list := []api.Named{{Name: "c", N: 3}, {Name: "b", N: 2}, {Name: "a", N: 1}, {Name: "z", N: 0}}
	ms := []api.Message{{Name: "m", Fields: fields[:2], Reserved: numbers[:2]}, {Name: "n", Fields: fields[:3], Reserved: numbers[1:3]}, {Name: "spare"}}
	es := []api.Enumeration{{Name: "e", Values: list[:2]}, {Name: "f", Values: list[1:3]}, {Name: "spare"}}
	cs := []api.Method{{Name: "c"}, {Name: "b"}, {Name: "spare"}}
	s := api.Schema{Name: "s", Messages: ms[:2], Enums: es[:2], Methods: cs[:2]}
	before := deep(api.Schema{Messages: []api.Message{{Fields: fields, Reserved: numbers}}, Enums: []api.Enumeration{{Values: list}}})
	whole := deep(api.Schema{Messages: ms, Enums: es, Methods: cs})
	unchanged := func() {
		t.Helper()
		now := api.Schema{Messages: []api.Message{{Fields: fields, Reserved: numbers}}, Enums: []api.Enumeration{{Values: list}}}
		if !reflect.DeepEqual(now, before) || !reflect.DeepEqual(api.Schema{Messages: ms, Enums: es, Methods: cs}, whole) {
			t.Fatalf("turned: %s, %s", short(now), short(s))
		}
	}
	want := canonOf(s)
	got, again := print.Canon(s), print.Canon(s)
	print.Print(s)
	print.Same(s, s)
	unchanged()
	spoil(got)
	unchanged()
	if !equal(again, want) {
		t.Fatal("two answers share memory")
	}
}

// spoil writes to all of s, spare room too.
func spoil(s api.Schema) {
	for _, m := range s.Messages {
		fill(m.Fields, api.Field{Name: "spoilt", Tag: 99})
		fill(m.Reserved, 99)
	}
	for _, x := range s.Enums {
		fill(x.Values, api.Named{Name: "spoilt", N: 99})
	}
	fill(s.Messages, api.Message{Name: "spoilt"})
	fill(s.Enums, api.Enumeration{Name: "spoilt"})
	fill(s.Methods, api.Method{Name: "spoilt"})
}

func fill[T any](l []T, x T) {
	l = l[:cap(l)]
	for i := range l {
		l[i] = x
	}
}

// R3: no two lists of one answer share memory, spare room too: what is put
// behind one is not seen in another.
func TestListsApart(t *testing.T) {
	fields, numbers := []api.Field{field("b", 2), field("a", 1), field("c", 3)}, []int{3, 2, 1}
	list := []api.Named{{Name: "c", N: 3}, {Name: "b", N: 2}, {Name: "a", N: 1}}
	s := api.Schema{Name: "s"}
	for i := range 4 {
		s.Messages = append(s.Messages, api.Message{Name: fmt.Sprint("m", i), Fields: fields[:i], Reserved: numbers[:i]})
		s.Enums = append(s.Enums, api.Enumeration{Name: fmt.Sprint("e", i), Values: list[:i]})
	}
	want, got := canonOf(s), print.Canon(s)
	for i := range got.Messages {
		m, x := got.Messages[i], got.Enums[i]
		fill(m.Fields[len(m.Fields):], field("spoilt", 99))
		fill(m.Reserved[len(m.Reserved):], 99)
		fill(x.Values[len(x.Values):], api.Named{Name: "spoilt"})
		if !equal(got, want) {
			t.Fatalf("spare room of %d is another list's", i)
		}
	}
	for i := range got.Messages {
		fill(got.Messages[i].Fields, field("spoilt", 99))
		fill(got.Messages[i].Reserved, 99)
		fill(got.Enums[i].Values, api.Named{Name: "spoilt"})
		got.Messages[i], got.Enums[i] = want.Messages[i], want.Enums[i]
		if !equal(got, want) {
			t.Fatalf("lists of %d are another one's", i)
		}
	}
}

// R4: what Read answers is its own, whatever was done with an answer ahead.
func TestReadMemory(t *testing.T) {
	a, _, _ := print.Read(shopText)
	spoil(a)
	readIs(t, shopText, canonOf(shop()), 0, api.OK)
}

// P8.3: Read's schema is in order, wherever things stand in the text, and
// whatever blanks, lines and comments there are.
func TestReadOtherTexts(t *testing.T) {
	want := shop()
	want.Messages = want.Messages[:1]
	want.Messages[0].Fields = append(want.Messages[0].Fields[:2:2], field("zu", 9))
	want.Enums = want.Enums[:1]
	want.Methods = []api.Method{{Name: "b", In: "ware", Out: "ware"}, {Name: "a", In: "ware", Out: "ware"}}
	for _, text := range []string{
		"schema laden;message ware{int32 nummer=10;repeated farbe farbe=499;reserved 4,500,17;int32 zu=9;}enum farbe{rot=2147483647;blau=0;grün=1;}call b(ware)returns(ware);call a(ware)returns(ware);",
		"\r\n\tschema // the name\nladen ; call b ( ware ) returns ( ware ) ;\n\n enum farbe { grün = 1; rot = 2147483647; blau = 0 ; }" +
			"call a(ware)\nreturns (ware); // \xff\nmessage ware { reserved 17; int32 zu = 9; repeated farbe farbe = 499; reserved 500 , 4; int32\tnummer=10; }// end",
	} {
		readIs(t, text, canonOf(want), 0, api.OK)
		s, _, _ := print.Read(text)
		sameIs(t, s, want, true)
	}
}

// P8.3: texts that Parse refuses: its place and its error, whatever check would say.
func TestReadNoTexts(t *testing.T) {
	zero := api.Schema{}
	readIs(t, "", zero, 0, api.ErrSyntax)
	readIs(t, " // nothing", zero, 11, api.ErrSyntax)
	readIs(t, "schema a; message", zero, 17, api.ErrSyntax)
	readIs(t, "schema text;", zero, 7, api.ErrSyntax)
	readIs(t, "schema a; message m { int32 x = 1 }", zero, 34, api.ErrSyntax)
	readIs(t, "schema a; message m { int32 x = 01; }", zero, 32, api.ErrSyntax)
	readIs(t, "schema a; message m { int32 x = -1; }", zero, 32, api.ErrSyntax)
	readIs(t, "schema a; message m { reserved ; }", zero, 31, api.ErrSyntax)
	readIs(t, "schema a; message m {} \xff", zero, 23, api.ErrText)
	readIs(t, "schema a; message m {} #", zero, 23, api.ErrSyntax)
	readIs(t, strings.Repeat(" ", api.MaxSource+1), zero, 0, api.ErrBig)
	readIs(t, shopText+strings.Repeat("#", api.MaxSource), zero, 0, api.ErrBig)
	// Check would refuse these, too: a message that stands twice, none at all.
	readIs(t, "schema a; message m {} message m {} }", zero, 36, api.ErrSyntax)
	readIs(t, "schema a; enum", zero, 14, api.ErrSyntax)
	readIs(t, "schema a; \x80", zero, 10, api.ErrText)
	for i := range shopText {
		want, at, e := idl.Parse(shopText[:i])
		if e == api.OK {
			e = check.Check(want)
		}
		if e == api.OK {
			continue
		}
		readIs(t, shopText[:i], zero, at, e)
	}
}

// P8.3: texts that are read and that check refuses: zero, 0, its error.
func TestReadMayNotBe(t *testing.T) {
	many := func(n int, form string) string {
		out := ""
		for i := 1; i <= n; i++ {
			out += fmt.Sprintf(form, i, i)
		}
		return out
	}
	for text, e := range map[string]api.Errno{
		"schema a;":                                                             api.ErrEmpty,
		"schema a; enum e { x = 0; }":                                           api.ErrEmpty,
		"schema a; message m {} enum e { x = 1; }":                              api.ErrEmpty,
		"schema a; message m {} enum e { }":                                     api.ErrEmpty,
		"schema a; message m {} message m {}":                                   api.ErrName,
		"schema a; message m {} enum m { x = 0; }":                              api.ErrName,
		"schema a; message m { int32 x=1; bool x = 2;}":                         api.ErrName,
		"schema a; message m { int32 x = 501; }":                                api.ErrTag,
		"schema a; message m { int32 x = 0; }":                                  api.ErrTag,
		"schema a; message m { int32 x=1; bool y = 1;}":                         api.ErrTag,
		"schema a; message m { int32 x=1; reserved 1;}":                         api.ErrTag,
		"schema a; message m { reserved 1, 2, 1; }":                             api.ErrTag,
		"schema a; message m { n x = 1; }":                                      api.ErrType,
		"schema a; message m {} call c(m) returns (n);":                         api.ErrType,
		"schema a; message m {} enum e {x=0; y=0;}":                             api.ErrRange,
		"schema a; message m {} enum e {x=2147483648; y=0;}":                    api.ErrRange,
		"schema a;" + many(11, "message m%d {} // %d\n"):                        api.ErrBig,
		"schema a; message m {" + many(17, "int32 x%d = %d;") + "}":             api.ErrBig,
		"schema a; message m {" + many(33, "reserved %d; // %d\n") + "}":        api.ErrBig,
		"schema a; message m {} " + many(7, "enum e%d { x = 0; } // %d\n"):      api.ErrBig,
		"schema a; message m {} " + many(7, "call c%d(m) returns (m); // %d\n"): api.ErrBig,
		"schema a; message m {} enum e { x = 0; " + many(16, "x%d = %d;") + "}": api.ErrBig,
	} {
		readIs(t, text, api.Schema{}, 0, e)
		if _, _, f := idl.Parse(text); f != api.OK {
			t.Fatalf("Parse(%q): %v", text, f)
		}
	}
}

// P8.3: Same sees what Print writes: each part, and nothing else.
func TestSame(t *testing.T) {
	turns := []func(s *api.Schema){
		func(s *api.Schema) { s.Name = "lade" },
		func(s *api.Schema) { s.Messages[0].Name = "w" },
		func(s *api.Schema) { s.Messages[0].Fields[1].Name = "f" },
		func(s *api.Schema) { s.Messages[0].Fields[1].Tag = 498 },
		func(s *api.Schema) { s.Messages[0].Fields[1].Label = api.One },
		func(s *api.Schema) { s.Messages[0].Fields[1].Type.Name = "art" },
		func(s *api.Schema) { s.Messages[0].Fields[0].Type.Kind = api.Int64 },
		func(s *api.Schema) { s.Messages[0].Fields = s.Messages[0].Fields[1:] },
		func(s *api.Schema) { s.Messages[0].Reserved[1] = 499 },
		func(s *api.Schema) { s.Messages[0].Reserved = s.Messages[0].Reserved[1:] },
		func(s *api.Schema) { s.Messages = append(s.Messages, api.Message{Name: "neu"}) },
		func(s *api.Schema) { s.Messages[0], s.Messages[1] = s.Messages[1], s.Messages[0] },
		func(s *api.Schema) { s.Enums[1].Name = "a" },
		func(s *api.Schema) { s.Enums[0].Values[0].Name = "r" },
		func(s *api.Schema) { s.Enums[0].Values[0].N = 2 },
		func(s *api.Schema) { s.Enums[0], s.Enums[1] = s.Enums[1], s.Enums[0] },
		func(s *api.Schema) { s.Methods[0].Name = "z" },
		func(s *api.Schema) { s.Methods[0].In = "ware" },
		func(s *api.Schema) { s.Methods[0].Out = "frage" },
		func(s *api.Schema) { s.Methods[0], s.Methods[1] = s.Methods[1], s.Methods[0] },
		func(s *api.Schema) { s.Methods = nil },
	}
	for _, turn := range turns {
		s := shop()
		turn(&s)
		sameIs(t, s, shop(), false)
		sameIs(t, s, deep(s), true)
	}
	for _, turn := range []func(s *api.Schema){
		func(s *api.Schema) { slices.Reverse(s.Messages[0].Fields) },
		func(s *api.Schema) { slices.Reverse(s.Messages[0].Reserved) },
		func(s *api.Schema) { slices.Reverse(s.Enums[0].Values) },
		func(s *api.Schema) { s.Messages[2].Fields, s.Messages[2].Reserved = []api.Field{}, []int{} },
		// No text tells these: a label that is none, a kind that is none, an
		// Enum's kind and a Msg's, a scalar's name.
		func(s *api.Schema) { s.Messages[0].Fields[0].Label = 0 },
		func(s *api.Schema) { s.Messages[0].Fields[1].Type.Kind = 9 },
		func(s *api.Schema) { s.Messages[0].Fields[1].Type.Kind = api.Msg },
		func(s *api.Schema) { s.Messages[0].Fields[0].Type.Name = "k" },
	} {
		s := shop()
		turn(&s)
		sameIs(t, s, shop(), true)
	}
	sameIs(t, one(field("a", 1), field("b", 1)), one(field("b", 1), field("a", 1)), false)
	// Two schemas that are not alike, with one text: that alone is asked.
	sameIs(t, methods(api.Method{Name: "a", In: "b", Out: "c"}), api.Schema{Name: "s;\nmessage m {\n}\ncall a(b) returns (c)"}, true)
	sameIs(t, one(field("a", 1)), one(api.Field{Name: "a", Tag: 1, Type: named(0, "int32")}), true)
}

// letters has some of one byte and some of two.
var letters = []rune{'a', 'z', 'A', 'Z', '_', 'À', 'ö', 'ɏ', 'Α', 'ω', '0', '9'}

// someName is a name: not a Key, and no other one's with the same number.
func someName(r *rand.Rand, n int) string {
	out := fmt.Sprint("n", n, "_")
	for range r.Intn(4) {
		out += string(letters[r.Intn(len(letters))])
	}
	return out
}

// mayBe is a schema that may be.
func mayBe(r *rand.Rand) api.Schema {
	s := api.Schema{Name: someName(r, 0)}
	for i := range 1 + r.Intn(api.MaxMessages) {
		s.Messages = append(s.Messages, api.Message{Name: someName(r, i)})
	}
	for i := range r.Intn(api.MaxEnums + 1) {
		x := api.Enumeration{Name: someName(r, 20+i)}
		for j, n := range r.Perm(1 + r.Intn(api.MaxValues)) {
			if n > 0 && r.Intn(3) == 0 {
				n = math.MaxInt32 - n
			}
			x.Values = append(x.Values, api.Named{Name: someName(r, j), N: n})
		}
		s.Enums = append(s.Enums, x)
	}
	for i := range r.Intn(api.MaxMethods + 1) {
		in, out := s.Messages[r.Intn(len(s.Messages))].Name, s.Messages[r.Intn(len(s.Messages))].Name
		s.Methods = append(s.Methods, api.Method{Name: someName(r, i), In: in, Out: out})
	}
	for i := range s.Messages {
		tags := r.Perm(api.MaxTag)
		for j := range r.Intn(api.MaxFields + 1) {
			s.Messages[i].Fields = append(s.Messages[i].Fields, api.Field{Name: someName(r, j), Tag: 1 + tags[j], Label: 1 + r.Intn(3), Type: someType(r, s)})
		}
		for j := range r.Intn(2) * r.Intn(api.MaxReserved+1) {
			s.Messages[i].Reserved = append(s.Messages[i].Reserved, 1+tags[100+j])
		}
	}
	return s
}

func someType(r *rand.Rand, s api.Schema) api.Type {
	switch n := r.Intn(9); {
	case n < 5:
		return kind(1 + n)
	case n < 7 && len(s.Enums) > 0:
		return named(api.Enum, s.Enums[r.Intn(len(s.Enums))].Name)
	}
	return named(api.Msg, s.Messages[r.Intn(len(s.Messages))].Name)
}

// P8.1 to P8.4: of schemas that may be.
func TestThereAndBack(t *testing.T) {
	r := rand.New(rand.NewSource(84))
	for range 500 {
		s := mayBe(r)
		if e := check.Check(s); e != api.OK {
			t.Fatalf("Check(%s): %v", short(s), e)
		}
		text := textOf(s)
		canonIs(t, s, canonOf(s))
		printIs(t, s, text)
		readIs(t, text, canonOf(s), 0, api.OK)
		sameIs(t, s, canonOf(s), true)
	}
}

// greatest is a schema as great as the limits allow: names of MaxName runes
// that begin with c, the longest lines, as many of each as there may be.
func greatest(c rune) api.Schema {
	name := func(kind string, n int) string {
		tail := fmt.Sprint(kind, n)
		return strings.Repeat(string(c), api.MaxName-len(tail)) + tail
	}
	s := api.Schema{Name: name("s", 0)}
	for i := range api.MaxMessages {
		m := api.Message{Name: name("m", i)}
		for j := range api.MaxFields {
			f := api.Field{Name: name("f", j), Tag: api.MaxTag - j, Label: api.Optional + (i+j)%2, Type: named(api.Msg, name("m", (i+j)%api.MaxMessages))}
			if j%2 == 1 {
				f.Type = named(api.Enum, name("e", j%api.MaxEnums))
			}
			m.Fields = append(m.Fields, f)
		}
		for j := range api.MaxReserved {
			m.Reserved = append(m.Reserved, api.MaxTag-api.MaxFields-j)
		}
		s.Messages = append(s.Messages, m)
	}
	for i := range api.MaxEnums {
		x := api.Enumeration{Name: name("e", i), Values: []api.Named{{Name: name("v", 0), N: 0}}}
		for j := 1; j < api.MaxValues; j++ {
			x.Values = append(x.Values, api.Named{Name: name("v", j), N: math.MaxInt32 - j})
		}
		s.Enums = append(s.Enums, x)
	}
	for i := range api.MaxMethods {
		s.Methods = append(s.Methods, api.Method{Name: name("c", i), In: name("m", i), Out: name("m", 9-i)})
	}
	return s
}

// P8.4: as great as the limits allow.
func TestGreatest(t *testing.T) {
	s := greatest('a')
	if e := check.Check(s); e != api.OK {
		t.Fatal(e)
	}
	text := textOf(s)
	if len(text) > api.MaxSource {
		t.Fatalf("%d bytes", len(text))
	}
	canonIs(t, s, canonOf(s))
	printIs(t, s, text)
	readIs(t, text, canonOf(s), 0, api.OK)
}

// P8.2, P8.3: names with signs of two bytes can make a text that is longer than
// a text may be. Print writes it even so, Read has Parse's error of it; up to
// MaxSource bytes it is read.
func TestLongerThanMayBe(t *testing.T) {
	s := greatest('ω')
	if e := check.Check(s); e != api.OK {
		t.Fatal(e)
	}
	text := textOf(s)
	if len(text) <= api.MaxSource {
		t.Fatalf("%d bytes", len(text))
	}
	canonIs(t, s, canonOf(s))
	printIs(t, s, text)
	readIs(t, text, api.Schema{}, 0, api.ErrBig)
	sameIs(t, s, canonOf(s), true)
	turned := deep(s)
	turned.Methods[api.MaxMethods-1].Out = turned.Messages[0].Name
	sameIs(t, s, turned, false)

	for _, n := range []int{api.MaxSource - 1, api.MaxSource, api.MaxSource + 1} {
		s := fitting(s, n)
		text := textOf(s)
		if e := check.Check(s); e != api.OK || len(text) != n {
			t.Fatalf("%v, %d bytes; want %d", e, len(text), n)
		}
		printIs(t, s, text)
		if n > api.MaxSource {
			readIs(t, text, api.Schema{}, 0, api.ErrBig)
			continue
		}
		readIs(t, text, canonOf(s), 0, api.OK)
	}
}

// fitting is s, with so few fields, and so many signs of one byte in the names
// of these, that its text has n bytes.
func fitting(s api.Schema, n int) api.Schema {
	s = deep(s)
	for i := range s.Messages {
		for len(s.Messages[i].Fields) > 0 && len(textOf(s)) > n+1000 {
			s.Messages[i].Fields = s.Messages[i].Fields[1:]
		}
	}
	over := len(textOf(s)) - n
	for _, m := range s.Messages {
		for j, f := range m.Fields {
			many := min(over, strings.Count(f.Name, "ω"))
			m.Fields[j].Name = strings.Replace(f.Name, "ω", "a", many)
			over -= many
		}
	}
	return s
}

// someSchema is any schema: nothing in it need be.
func someSchema(r *rand.Rand) api.Schema {
	name := func() string {
		return []string{"", "a", "b", "größe", "text", "int32", "a b", "\n", "\xff", "optional", "}", "9"}[r.Intn(12)]
	}
	number := func() int {
		switch r.Intn(6) {
		case 0:
			return int(r.Uint64())
		case 1:
			return []int{math.MinInt, math.MaxInt, math.MaxInt32, math.MinInt32}[r.Intn(4)]
		}
		return r.Intn(12) - 2
	}
	s := api.Schema{Name: name()}
	for range r.Intn(4) {
		m := api.Message{Name: name()}
		for range r.Intn(20) {
			m.Fields = append(m.Fields, api.Field{Name: name(), Tag: number(), Label: number(), Type: named(number(), name())})
		}
		for range r.Intn(2) * r.Intn(20) {
			m.Reserved = append(m.Reserved, number())
		}
		s.Messages = append(s.Messages, m)
	}
	for range r.Intn(4) {
		x := api.Enumeration{Name: name()}
		for range r.Intn(20) {
			x.Values = append(x.Values, api.Named{Name: name(), N: number()})
		}
		s.Enums = append(s.Enums, x)
	}
	for range r.Intn(4) {
		s.Methods = append(s.Methods, api.Method{Name: name(), In: name(), Out: name()})
	}
	return s
}

// P8.1 to P8.3, R1: of any schemas; Read of what Print writes ends as Parse and
// Check say.
func TestAnySchemas(t *testing.T) {
	r := rand.New(rand.NewSource(88))
	last := api.Schema{}
	for range 3000 {
		s := someSchema(r)
		text := textOf(s)
		canonIs(t, s, canonOf(s))
		printIs(t, s, text)
		sameIs(t, s, last, text == textOf(last))
		sameIs(t, s, canonOf(s), true)
		want, at, e := idl.Parse(text)
		if e == api.OK {
			e = check.Check(want)
		}
		if e != api.OK {
			want = api.Schema{}
		}
		readIs(t, text, canonOf(want), at, e)
		last = s
	}
}
