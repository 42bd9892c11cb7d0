package check_test

import (
	"fmt"
	"math"
	"math/rand"
	"reflect"
	"slices"
	"strings"
	"testing"

	"concordat/api"
	"concordat/check"
	"concordat/idl"
)

func short(x any) string {
	s := strings.ToValidUTF8(fmt.Sprintf("%+v", x), "?")
	if len(s) > 600 {
		return s[:600] + ".."
	}
	return s
}

// is ends the test, if Check(s) is not want, turns s, or tells another thing the second time.
func is(t *testing.T, s api.Schema, want api.Errno) {
	t.Helper()
	before := deep(s)
	if e := check.Check(s); e != want {
		t.Fatalf("Check(%s): %v; want %v", short(s), e, want)
	}
	if e := reference(s); e != want {
		t.Fatalf("reference of %s: %v; want %v", short(s), e, want)
	}
	if e := check.Check(s); e != want {
		t.Fatalf("Check(%s) again: %v; want %v", short(s), e, want)
	}
	if !reflect.DeepEqual(s, before) {
		t.Fatalf("Check turned %s to %s", short(before), short(s))
	}
}

// deep is s in memory of its own; empty lists stay what they are.
func deep(s api.Schema) api.Schema {
	s.Messages, s.Enums, s.Methods = slices.Clone(s.Messages), slices.Clone(s.Enums), slices.Clone(s.Methods)
	for i, m := range s.Messages {
		s.Messages[i].Fields, s.Messages[i].Reserved = slices.Clone(m.Fields), slices.Clone(m.Reserved)
	}
	for i, x := range s.Enums {
		s.Enums[i].Values = slices.Clone(x.Values)
	}
	return s
}

func kind(k int) api.Type { return api.Type{Kind: k} }

func named(k int, name string) api.Type { return api.Type{Kind: k, Name: name} }

// shop is a schema that may be; no part of it hangs on the names of its first
// and its last message, its last enumeration and its methods.
func shop() api.Schema {
	return api.Schema{
		Name: "laden",
		Messages: []api.Message{
			{Name: "ware", Reserved: []int{4, 500, 17}, Fields: []api.Field{
				{Name: "nummer", Tag: 1, Label: api.One, Type: kind(api.Int32)},
				{Name: "farbe", Tag: 499, Label: api.Repeated, Type: named(api.Enum, "farbe")},
				{Name: "ware", Tag: 3, Label: api.Optional, Type: named(api.Msg, "frage")},
			}},
			{Name: "frage", Reserved: []int{1}, Fields: []api.Field{
				{Name: "größe", Tag: 500, Label: api.Optional, Type: kind(api.Int64)},
				{Name: "da", Tag: 2, Label: api.One, Type: kind(api.Bool)},
				{Name: "name", Tag: 3, Label: api.One, Type: kind(api.Text)},
				{Name: "bild", Tag: 4, Label: api.One, Type: kind(api.Bytes)},
				{Name: "frage", Tag: 5, Label: api.Repeated, Type: named(api.Msg, "frage")},
				{Name: "laden", Tag: 6, Label: api.One, Type: named(api.Enum, "farbe")},
			}},
			{Name: "letzte"},
		},
		Enums: []api.Enumeration{
			{Name: "farbe", Values: []api.Named{{Name: "rot", N: math.MaxInt32}, {Name: "farbe", N: 0}, {Name: "blau", N: 1}}},
			{Name: "laden", Values: []api.Named{{Name: "rot", N: 0}}},
		},
		Methods: []api.Method{{Name: "hole", In: "frage", Out: "frage"}, {Name: "frage", In: "frage", Out: "frage"}},
	}
}

// one is a schema of one message m with these fields.
func one(l ...api.Field) api.Schema {
	return api.Schema{Name: "s", Messages: []api.Message{{Name: "m", Fields: l}}}
}

func field(name string, tag int) api.Field {
	return api.Field{Name: name, Tag: tag, Label: api.One, Type: kind(api.Int32)}
}

// reserved is a schema of one message with these numbers reserved.
func reserved(l ...int) api.Schema {
	s := one()
	s.Messages[0].Reserved = l
	return s
}

// values is a schema of one empty message and one enumeration with these values.
func values(l ...api.Named) api.Schema {
	s := one()
	s.Enums = []api.Enumeration{{Name: "e", Values: l}}
	return s
}

// P7.1: the chapter's example.
func TestExample(t *testing.T) {
	is(t, one(field("x", 1), field("y", 1)), api.ErrTag)
	is(t, one(field("x", 1), field("y", 2)), api.OK)
}

// P7.1: schemas that may be, and what has nothing in it.
func TestOrdinary(t *testing.T) {
	is(t, shop(), api.OK)
	is(t, one(), api.OK)
	is(t, values(api.Named{Name: "a"}), api.OK)
	is(t, api.Schema{}, api.ErrName)
	is(t, api.Schema{Name: "s"}, api.ErrEmpty)
	is(t, api.Schema{Name: "s", Messages: []api.Message{}, Enums: []api.Enumeration{}, Methods: []api.Method{}}, api.ErrEmpty)
	is(t, api.Schema{Name: "s", Messages: []api.Message{{Name: "m", Fields: []api.Field{}, Reserved: []int{}}}, Enums: []api.Enumeration{}, Methods: []api.Method{}}, api.OK)
	is(t, api.Schema{Name: "s", Enums: shop().Enums}, api.ErrEmpty)
	is(t, api.Schema{Messages: []api.Message{{Name: "m"}}}, api.ErrName)
	is(t, api.Schema{Name: "s", Messages: []api.Message{{}}}, api.ErrName)
	is(t, one(api.Field{}), api.ErrName)
	is(t, values(api.Named{}), api.ErrName)
}

// P7.1: what idl reads, as it is.
func TestTexts(t *testing.T) {
	for text, want := range map[string]api.Errno{
		"schema a; message m { int32 x = 1; }":                          api.OK,
		"schema a;":                                                     api.ErrEmpty,
		"schema a; message m { } message m { }":                         api.ErrName,
		"schema a; message m { reserved 1; reserved 2, 1; }":            api.ErrTag,
		"schema a; message m { n x = 1; }":                              api.ErrType,
		"schema a; message m { n x = 1; } enum n { a = 0; }":            api.OK,
		"schema a; message m { n x = 1; } message n { m x = 1; }":       api.OK,
		"schema a; message m { } enum m { a = 0; }":                     api.ErrName,
		"schema a; message m { } enum e { }":                            api.ErrEmpty,
		"schema a; message m { } enum e { a = 0; b = 2147483648; }":     api.ErrRange,
		"schema a; call f(m) returns (n); message m { }":                api.ErrType,
		"schema a; call m(m) returns (m); message m { optional m m=1;}": api.OK,
	} {
		s, at, e := idl.Parse(text)
		if e != api.OK {
			t.Fatalf("Parse(%s): %d, %v", text, at, e)
		}
		is(t, s, want)
	}
}

// badNames are texts that are no names: nothing, keys, too long, no letter first, no runes.
var badNames = []string{
	"", "schema", "message", "enum", "call", "returns", "reserved", "optional", "repeated", "int32", "int64", "bool", "text", "bytes",
	strings.Repeat("a", 21), strings.Repeat("ß", 21), strings.Repeat("a", 1<<16), "9", "9a", "a b", "a-b", "a\n", "×", "a\x00", "\xff", "a\xff", "\xc3", "a\xed\xa0\x80", "�",
}

// goodNames are texts that are nearly none.
var goodNames = []string{"a", "_", "Text", "text_", "int", "int33", "größer", "λογος", "a9", strings.Repeat("a", 20), strings.Repeat("ß", 20)}

// places are those at which a schema has a name of its own.
var places = map[string]func(s *api.Schema, name string){
	"schema":        func(s *api.Schema, name string) { s.Name = name },
	"first message": func(s *api.Schema, name string) { s.Messages[0].Name = name },
	"last message":  func(s *api.Schema, name string) { s.Messages[2].Name = name },
	"first field":   func(s *api.Schema, name string) { s.Messages[0].Fields[0].Name = name },
	"last field":    func(s *api.Schema, name string) { s.Messages[1].Fields[5].Name = name },
	"enumeration":   func(s *api.Schema, name string) { s.Enums[1].Name = name },
	"first value":   func(s *api.Schema, name string) { s.Enums[0].Values[0].Name = name },
	"last value":    func(s *api.Schema, name string) { s.Enums[1].Values[0].Name = name },
	"first method":  func(s *api.Schema, name string) { s.Methods[0].Name = name },
	"last method":   func(s *api.Schema, name string) { s.Methods[1].Name = name },
}

// P7.1: names that are none, and names that are, at each place.
func TestNames(t *testing.T) {
	for _, put := range places {
		for _, name := range badNames {
			s := shop()
			put(&s, name)
			is(t, s, api.ErrName)
		}
		for _, name := range goodNames {
			s := shop()
			put(&s, name)
			is(t, s, api.OK)
		}
	}
}

// P7.1: names that stand ahead: messages and enumerations have theirs in
// common, all others have them among themselves.
func TestNamesAhead(t *testing.T) {
	for _, c := range []struct {
		want api.Errno
		turn func(s *api.Schema)
	}{
		{api.ErrName, func(s *api.Schema) { s.Messages[2].Name = "ware" }},
		{api.ErrName, func(s *api.Schema) { s.Messages[2].Name = "frage" }},
		{api.ErrName, func(s *api.Schema) { s.Messages[0].Name = "frage" }},
		{api.ErrName, func(s *api.Schema) { s.Messages[2].Name = "farbe" }},
		{api.ErrName, func(s *api.Schema) { s.Messages[0].Name = "laden" }},
		{api.ErrName, func(s *api.Schema) { s.Enums[1].Name = "farbe" }},
		{api.ErrName, func(s *api.Schema) { s.Enums[1].Name = "ware" }},
		{api.ErrName, func(s *api.Schema) { s.Enums[1].Name = "letzte" }},
		{api.OK, func(s *api.Schema) { s.Enums[1].Name = "Ware" }},
		{api.OK, func(s *api.Schema) { s.Name = "ware" }},
		{api.ErrName, func(s *api.Schema) { s.Messages[1].Fields[5].Name = "größe" }},
		{api.ErrName, func(s *api.Schema) { s.Messages[1].Fields[1].Name = "größe" }},
		{api.OK, func(s *api.Schema) { s.Messages[1].Fields[5].Name = "nummer" }},
		{api.OK, func(s *api.Schema) { s.Messages[1].Fields[5].Name = "ware" }},
		{api.ErrName, func(s *api.Schema) { s.Enums[0].Values[2].Name = "rot" }},
		{api.ErrName, func(s *api.Schema) { s.Enums[0].Values[1].Name = "rot" }},
		{api.OK, func(s *api.Schema) { s.Enums[1].Values[0].Name = "blau" }},
		{api.OK, func(s *api.Schema) { s.Enums[1].Values[0].Name = "ware" }},
		{api.ErrName, func(s *api.Schema) { s.Methods[1].Name = "hole" }},
		{api.OK, func(s *api.Schema) { s.Methods[1].Name = "farbe" }},
		{api.OK, func(s *api.Schema) { s.Methods[1].Name = "nummer" }},
	} {
		s := shop()
		c.turn(&s)
		is(t, s, c.want)
	}
}

// many is n times what a number makes.
func many[T any](n int, of func(i int) T) []T {
	var l []T
	for i := range n {
		l = append(l, of(i))
	}
	return l
}

func numbered(name string, i int) string { return fmt.Sprint(name, i) }

// of is a schema with so many of each.
func of(messages, enums, methods, fields, reserved, values int) api.Schema {
	return api.Schema{
		Name: "s",
		Messages: many(messages, func(i int) api.Message {
			return api.Message{
				Name:     numbered("m", i),
				Fields:   many(fields, func(i int) api.Field { return field(numbered("x", i), 1+i) }),
				Reserved: many(reserved, func(i int) int { return api.MaxTag - i }),
			}
		}),
		Enums: many(enums, func(i int) api.Enumeration {
			return api.Enumeration{Name: numbered("e", i), Values: many(values, func(i int) api.Named {
				return api.Named{Name: numbered("v", i), N: values - 1 - i}
			})}
		}),
		Methods: many(methods, func(i int) api.Method { return api.Method{Name: numbered("f", i), In: "m0", Out: "m0"} }),
	}
}

// P7.1: as many of each as may be, and one more.
func TestLimits(t *testing.T) {
	is(t, of(10, 6, 6, 16, 32, 16), api.OK)
	is(t, of(11, 6, 6, 16, 32, 16), api.ErrBig)
	is(t, of(10, 7, 6, 16, 32, 16), api.ErrBig)
	is(t, of(10, 6, 7, 16, 32, 16), api.ErrBig)
	is(t, of(10, 6, 6, 17, 32, 16), api.ErrBig)
	is(t, of(10, 6, 6, 16, 33, 16), api.ErrBig)
	is(t, of(10, 6, 6, 16, 32, 17), api.ErrBig)
	is(t, of(0, 7, 7, 0, 0, 0), api.ErrEmpty)
	is(t, of(1, 0, 0, 0, 0, 0), api.OK)
	is(t, of(1, 1, 0, 0, 0, 0), api.ErrEmpty)
	last := of(10, 6, 6, 16, 32, 16)
	last.Messages[9].Fields = append(last.Messages[9].Fields, field("y", 17))
	is(t, last, api.ErrBig)
	last = of(10, 6, 6, 16, 32, 16)
	last.Messages[9].Reserved = append(last.Messages[9].Reserved, 17)
	is(t, last, api.ErrBig)
	last = of(10, 6, 6, 16, 32, 16)
	last.Enums[5].Values = append(last.Enums[5].Values, api.Named{Name: "w", N: 16})
	is(t, last, api.ErrBig)
}

// P7.1 and R1: far more of each than may be; each call ends.
func TestFarTooMany(t *testing.T) {
	const n = 1 << 20
	for i, s := range []api.Schema{
		{Name: "s", Messages: make([]api.Message, n)},
		{Name: "s", Messages: []api.Message{{Name: "m"}}, Enums: make([]api.Enumeration, n)},
		{Name: "s", Messages: []api.Message{{Name: "m"}}, Methods: make([]api.Method, n)},
		one(make([]api.Field, n)...),
		reserved(make([]int, n)...),
		values(make([]api.Named, n)...),
	} {
		if e := check.Check(s); e != api.ErrBig {
			t.Error(i, e)
		}
	}
}

// P7.1: reserved numbers and tags from 1 to MaxTag, each once.
func TestTags(t *testing.T) {
	for n := -2; n <= api.MaxTag+2; n++ {
		want := api.OK
		if n < 1 || n > 500 {
			want = api.ErrTag
		}
		is(t, reserved(n), want)
		is(t, one(field("x", n)), want)
		if n == 7 || n == 8 {
			want = api.ErrTag
		}
		is(t, reserved(7, 8, n), want)
		is(t, one(field("x", 7), field("y", 8), field("z", n)), want)
	}
	for _, n := range []int{math.MinInt, math.MinInt32, -1, 0, 501, 1 << 16, math.MaxInt32, math.MaxInt, 1<<32 + 1} {
		is(t, reserved(n), api.ErrTag)
		is(t, one(field("x", n)), api.ErrTag)
	}
	is(t, reserved(1, 1), api.ErrTag)
	is(t, reserved(500, 3, 500), api.ErrTag)
	is(t, reserved(500, 3, 1, 2), api.OK)
}

// P7.1: a tag that is reserved in its message, wherever; and in another one.
func TestReservedTags(t *testing.T) {
	for i, tag := range []int{4, 500, 17} {
		s := shop()
		s.Messages[0].Fields[i].Tag = tag
		is(t, s, api.ErrTag)
		s = shop()
		s.Messages[2].Fields = []api.Field{field("x", tag)}
		is(t, s, api.OK)
	}
	s := shop()
	s.Messages[2].Reserved = []int{1, 4, 499, 17}
	is(t, s, api.OK)
}

// P7.1: each label with each type, and those that are none.
func TestLabelsAndKinds(t *testing.T) {
	numbers := []int{math.MinInt, -1, 0, 1, 2, 3, 4, 5, 6, 7, 8, 1 << 32, 1<<32 + 1, math.MaxInt}
	for _, label := range numbers {
		for _, k := range numbers {
			for _, name := range []string{"", "m", "e", "n", "E", "x", "text", "\xff"} {
				s := values(api.Named{Name: "a"})
				s.Messages[0].Fields = []api.Field{{Name: "x", Tag: 1, Label: label, Type: named(k, name)}}
				s.Messages = append(s.Messages, api.Message{Name: "n"})
				fits := k >= 1 && k <= 5 && name == "" || k == 6 && name == "e" || k == 7 && (name == "m" || name == "n")
				if fits && label >= 1 && label <= 3 {
					is(t, s, api.OK)
				} else {
					is(t, s, api.ErrType)
				}
			}
		}
	}
}

// P7.1: a type's name is one of s as it stands, wherever: whether that is a
// name is told at its own place.
func TestTypesByName(t *testing.T) {
	withType := func(k int, name string) api.Schema {
		s := shop()
		s.Messages[0].Fields[0].Type = named(k, name)
		return s
	}
	for _, name := range []string{"", "text", "9", "\xff", strings.Repeat("a", 21)} {
		is(t, withType(api.Msg, name), api.ErrType)
		is(t, withType(api.Enum, name), api.ErrType)
		s := withType(api.Msg, name)
		s.Messages[2].Name = name
		is(t, s, api.ErrName)
		s = withType(api.Enum, name)
		s.Enums[1].Name = name
		is(t, s, api.ErrName)
	}
	both := withType(api.Msg, "farbe")
	is(t, both, api.ErrType)
	both.Messages[2].Name = "farbe"
	is(t, both, api.ErrName)
	both = withType(api.Enum, "ware")
	is(t, both, api.ErrType)
	both.Enums[1].Name = "ware"
	is(t, both, api.ErrName)
}

// P7.1: an enumeration without the number 0, whatever else it has.
func TestEnumsWithoutZero(t *testing.T) {
	is(t, values(), api.ErrEmpty)
	is(t, values(api.Named{Name: "a", N: 1}), api.ErrEmpty)
	is(t, values(api.Named{Name: "9", N: -1}), api.ErrEmpty)
	is(t, values(many(16, func(i int) api.Named { return api.Named{Name: numbered("v", i), N: i + 1} })...), api.ErrEmpty)
	is(t, values(many(17, func(i int) api.Named { return api.Named{Name: numbered("v", i), N: i + 1} })...), api.ErrBig)
	is(t, values(many(16, func(i int) api.Named { return api.Named{Name: numbered("v", i), N: 15 - i} })...), api.OK)
	s := shop()
	s.Enums[1].Values = nil
	is(t, s, api.ErrEmpty)
	s.Enums[1].Values = []api.Named{{Name: "a", N: 1 << 32}}
	is(t, s, api.ErrEmpty)
}

// P7.1: an enumeration's numbers.
func TestEnumNumbers(t *testing.T) {
	for n, want := range map[int]api.Errno{
		math.MinInt: api.ErrRange, math.MinInt32: api.ErrRange, -1: api.ErrRange, 0: api.ErrRange, 1: api.OK, 2: api.OK, 3: api.ErrRange, 500: api.OK, 501: api.OK,
		1<<31 - 2: api.OK, 1<<31 - 1: api.OK, 1 << 31: api.ErrRange, 1 << 32: api.ErrRange, 1<<32 + 1: api.ErrRange, math.MaxInt: api.ErrRange,
	} {
		is(t, values(api.Named{Name: "a"}, api.Named{Name: "b", N: 3}, api.Named{Name: "c", N: n}), want)
		is(t, values(api.Named{Name: "c", N: n}, api.Named{Name: "a"}, api.Named{Name: "b", N: 3}), want)
	}
	is(t, values(api.Named{Name: "a"}, api.Named{Name: "a"}), api.ErrName)
	is(t, values(api.Named{Name: "a"}, api.Named{Name: "b"}), api.ErrRange)
}

// P7.1: what goes into a method and comes out of it are messages.
func TestMethodTypes(t *testing.T) {
	for name, want := range map[string]api.Errno{
		"ware": api.OK, "frage": api.OK, "letzte": api.OK,
		"": api.ErrType, "farbe": api.ErrType, "laden": api.ErrType, "hole": api.ErrType, "nummer": api.ErrType, "Ware": api.ErrType, "text": api.ErrType, "int32": api.ErrType, "\xff": api.ErrType,
	} {
		for i := range 2 {
			s := shop()
			s.Methods[i].In = name
			is(t, s, want)
			s = shop()
			s.Methods[i].Out = name
			is(t, s, want)
			s.Methods[i].In = name
			is(t, s, want)
		}
	}
}

// turn spoils a shop at a place of its own; e is what Check tells then.
type turn struct {
	e  api.Errno
	do func(s *api.Schema)
}

func spoilFields(m int, l ...turn) []turn {
	first := func(s *api.Schema) *api.Field { return &s.Messages[m].Fields[0] }
	last := func(s *api.Schema) *api.Field { return &s.Messages[m].Fields[2] }
	return append(l,
		turn{api.ErrName, func(s *api.Schema) { first(s).Name = "9" }},
		turn{api.ErrTag, func(s *api.Schema) { first(s).Tag = 501 }},
		turn{api.ErrType, func(s *api.Schema) { first(s).Label = 0 }},
		turn{api.ErrName, func(s *api.Schema) { last(s).Name = "" }},
		turn{api.ErrTag, func(s *api.Schema) { last(s).Tag = 0 }},
		turn{api.ErrType, func(s *api.Schema) { last(s).Type = api.Type{} }},
	)
}

func spoilMessage(m int) []turn {
	return spoilFields(m,
		turn{api.ErrBig, func(s *api.Schema) { s.Messages[m].Fields = append(s.Messages[m].Fields, make([]api.Field, 16)...) }},
		turn{api.ErrBig, func(s *api.Schema) { s.Messages[m].Reserved = append(s.Messages[m].Reserved, make([]int, 32)...) }},
		turn{api.ErrTag, func(s *api.Schema) { s.Messages[m].Reserved[0] = -1 }},
	)
}

func spoilEnum(i int) []turn {
	return []turn{
		{api.ErrBig, func(s *api.Schema) { s.Enums[i].Values = append(s.Enums[i].Values, make([]api.Named, 16)...) }},
		{api.ErrEmpty, func(s *api.Schema) {
			for j := range s.Enums[i].Values {
				s.Enums[i].Values[j].N += 5 * (j + 1)
			}
		}},
		{api.ErrName, func(s *api.Schema) { s.Enums[i].Values[0].Name = "bool" }},
	}
}

// turns stand in the promise's order; none of them stands in another one's way.
var turns = slices.Concat(
	[]turn{
		{api.ErrName, func(s *api.Schema) { s.Name = "" }},
		{api.ErrEmpty, func(s *api.Schema) { s.Messages = nil }},
		{api.ErrBig, func(s *api.Schema) { s.Messages = append(s.Messages, make([]api.Message, 8)...) }},
		{api.ErrBig, func(s *api.Schema) { s.Enums = append(s.Enums, make([]api.Enumeration, 5)...) }},
		{api.ErrBig, func(s *api.Schema) { s.Methods = append(s.Methods, make([]api.Method, 5)...) }},
		{api.ErrName, func(s *api.Schema) { s.Messages[0].Name = "9" }},
	},
	spoilMessage(0), spoilMessage(1),
	[]turn{
		{api.ErrName, func(s *api.Schema) { s.Messages[2].Name = "frage" }},
		{api.ErrBig, func(s *api.Schema) { s.Messages[2].Reserved = make([]int, 33) }},
	},
	spoilEnum(0),
	[]turn{
		{api.ErrRange, func(s *api.Schema) { s.Enums[0].Values[2].N = 1 << 31 }},
		{api.ErrName, func(s *api.Schema) { s.Enums[1].Name = "letzte" }},
	},
	spoilEnum(1),
	[]turn{
		{api.ErrName, func(s *api.Schema) { s.Methods[0].Name = "text" }},
		{api.ErrType, func(s *api.Schema) { s.Methods[0].Out = "" }},
		{api.ErrName, func(s *api.Schema) { s.Methods[1].Name = "ä b" }},
		{api.ErrType, func(s *api.Schema) { s.Methods[1].In = "farbe" }},
	},
)

// P7.1: one fault, and two and three at once: the first in the promise's order is told.
func TestFaultsAtOnce(t *testing.T) {
	for i, a := range turns {
		s := shop()
		a.do(&s)
		is(t, s, a.e)
		for j, b := range turns[i+1:] {
			s := shop()
			b.do(&s) // the later one first: an earlier one may take away where it stood
			a.do(&s)
			is(t, s, a.e)
			for _, c := range turns[i+1+j+1:] {
				s := shop()
				c.do(&s)
				b.do(&s)
				a.do(&s)
				if e := check.Check(s); e != a.e {
					t.Fatalf("Check(%s): %v; want %v", short(s), e, a.e)
				}
			}
		}
	}
}

// P7.1: in a message all reserved numbers come ahead of all fields, and all of
// a field ahead of the next one; messages ahead of what hangs on them.
func TestOrderWithin(t *testing.T) {
	s := one(api.Field{Name: "9"})
	s.Messages[0].Reserved = []int{1, 2, 0}
	is(t, s, api.ErrTag)
	is(t, one(api.Field{Name: "x", Tag: 1}, api.Field{Name: "x", Tag: 1}), api.ErrType)
	is(t, one(api.Field{Name: "x", Tag: 0}, api.Field{Name: "", Tag: 1}), api.ErrTag)
	is(t, one(field("x", 1), api.Field{Name: "x", Tag: 1}), api.ErrName)
	is(t, one(field("x", 1), api.Field{Name: "y", Tag: 1}), api.ErrTag)
	is(t, values(api.Named{Name: "a", N: -1}, api.Named{Name: "a"}), api.ErrRange)
	is(t, values(api.Named{Name: "a"}, api.Named{Name: "a", N: -1}), api.ErrName)
	s = shop()
	s.Messages[1].Name = "anfrage" // what the message ahead of it has is told first
	is(t, s, api.ErrType)
	s.Messages[0].Fields[2].Type.Name = "anfrage"
	is(t, s, api.ErrType)
	s.Messages[1].Fields[4].Type.Name = "anfrage"
	is(t, s, api.ErrType)
	for i := range s.Methods {
		s.Methods[i].In, s.Methods[i].Out = "anfrage", "anfrage"
	}
	is(t, s, api.OK)
	s.Enums[1].Name = "ware" // a message's is told at the enumeration: behind the other one's faults
	s.Enums[0].Values = nil
	is(t, s, api.ErrEmpty)
	s.Messages[2].Fields = []api.Field{{}}
	is(t, s, api.ErrName)
	s.Messages[2].Fields[0].Name = "x"
	is(t, s, api.ErrTag)
}

// dice makes schemas of few names and numbers, so that they often meet.
type dice struct{ *rand.Rand }

func pick[T any](d dice, l ...T) T { return l[d.Intn(len(l))] }

// mostly is a, and now and then one of the others.
func mostly[T any](d dice, a T, others ...T) T {
	if d.Intn(40) > 0 {
		return a
	}
	return pick(d, others...)
}

func (d dice) name(most int) string {
	return mostly(d, string(rune('a'+d.Intn(most))), "", "text", "9", "\xff", strings.Repeat("b", 20), strings.Repeat("b", 21))
}

func (d dice) kind() api.Type {
	k := pick(d, api.Int32, api.Int64, api.Bool, api.Text, api.Bytes, api.Enum, api.Msg)
	name := mostly(d, "", "m", "e")
	switch k {
	case api.Enum:
		name = pick(d, "a", "b", "c")
	case api.Msg:
		name = pick(d, "x", "y", "z")
	}
	return named(mostly(d, k, 0, 8, -1), name)
}

func (d dice) message(name string) api.Message {
	m := api.Message{Name: name}
	for range d.Intn(4) {
		m.Reserved = append(m.Reserved, mostly(d, 1+d.Intn(60), 0, -1, 500, 501))
	}
	for range d.Intn(4) {
		m.Fields = append(m.Fields, api.Field{Name: d.name(26), Tag: mostly(d, 1+d.Intn(60), 0, -1, 500, 501), Label: mostly(d, 1+d.Intn(3), 0, 4, -1), Type: d.kind()})
	}
	return m
}

func (d dice) enum(name string) api.Enumeration {
	x := api.Enumeration{Name: name}
	for range mostly(d, 1+d.Intn(3), 0, 16, 17) {
		x.Values = append(x.Values, api.Named{Name: d.name(26), N: mostly(d, d.Intn(60), -1, 1<<31-1, 1<<31)})
	}
	if len(x.Values) > 0 && d.Intn(10) > 0 {
		x.Values[d.Intn(len(x.Values))].N = 0
	}
	return x
}

func (d dice) schema() api.Schema {
	s := api.Schema{Name: d.name(26)}
	for _, name := range []string{"x", "y", "z"}[:mostly(d, 3, 0, 1, 2)] {
		s.Messages = append(s.Messages, d.message(mostly(d, name, "x", "a", "")))
	}
	for _, name := range []string{"a", "b", "c"}[:mostly(d, 3, 0, 1, 2)] {
		s.Enums = append(s.Enums, d.enum(mostly(d, name, "x", "a", "")))
	}
	for range d.Intn(3) {
		s.Methods = append(s.Methods, api.Method{Name: d.name(26), In: mostly(d, "x", "y", "z", "a", ""), Out: mostly(d, "x", "y", "z", "a", "")})
	}
	return s
}

// P7.1: schemas at random, from a fixed seed, against the reference; each answer comes up.
func TestRandom(t *testing.T) {
	d := dice{rand.New(rand.NewSource(7))}
	told := map[api.Errno]int{}
	for range 20000 {
		s := d.schema()
		want := reference(s)
		told[want]++
		is(t, s, want)
	}
	for _, e := range []api.Errno{api.OK, api.ErrName, api.ErrEmpty, api.ErrBig, api.ErrTag, api.ErrType, api.ErrRange} {
		if told[e] < 20 {
			t.Errorf("%v came up %d times", e, told[e])
		}
	}
	if len(told) != 7 {
		t.Error(told)
	}
}

// R3, R4: one call leaves nothing behind for the next one.
func TestNothingKept(t *testing.T) {
	for range 3 {
		is(t, shop(), api.OK)
		is(t, one(field("x", 1), field("y", 1)), api.ErrTag)
		is(t, one(field("x", 1)), api.OK)
		is(t, api.Schema{}, api.ErrName)
	}
}
