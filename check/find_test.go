package check_test

import (
	"math"
	"math/rand"
	"reflect"
	"slices"
	"testing"

	"concordat/api"
	"concordat/check"
)

// twice is a schema in which names and tags stand more than once, with empty
// ones among them: what may not be can be asked, too.
func twice() api.Schema {
	return api.Schema{
		Messages: []api.Message{
			{Name: "n"},
			{Name: "m", Reserved: []int{3, 0, 3}, Fields: []api.Field{
				{Name: "a", Tag: 1, Label: api.One, Type: kind(api.Text)},
				{Name: "b", Tag: 2, Label: api.Optional, Type: named(api.Msg, "n")},
				{Name: "c", Tag: 1},
				{Name: "d", Tag: 2},
				{Name: "zero"},
				{Name: "below", Tag: -7},
			}},
			{Name: "m", Reserved: []int{9}, Fields: []api.Field{{Name: "x", Tag: 9}}},
			{Name: "", Reserved: []int{1}},
			{Name: "n", Reserved: []int{2}},
		},
		Enums: []api.Enumeration{
			{Name: "e", Values: []api.Named{{Name: "a", N: 1}, {Name: "b"}}},
			{Name: "m", Values: []api.Named{{Name: "c", N: 2}}},
			{Name: "e", Values: []api.Named{{Name: "d", N: 3}}},
			{Name: "\xff"},
		},
		Methods: []api.Method{{Name: "f", In: "a", Out: "b"}, {Name: "g", In: "c"}, {Name: "f", In: "d", Out: "e"}, {Name: "m"}},
	}
}

// found ends the test, if what a call answered is not want, or zero and false where there is none.
func found[T any](t *testing.T, what string, got T, ok bool, want T, there bool) {
	t.Helper()
	if ok != there || !reflect.DeepEqual(got, want) {
		t.Errorf("%s: %s, %v; want %s, %v", what, short(got), ok, short(want), there)
	}
}

// P7.2: messages, enumerations, methods by their names.
func TestByName(t *testing.T) {
	s := twice()
	for name, i := range map[string]int{"n": 0, "m": 1, "": 3, "e": -1, "f": -1, "a": -1, "M": -1, "m ": -1, "\xff": -1} {
		got, ok := check.Message(s, name)
		found(t, "Message "+name, got, ok, at(s.Messages, i), i >= 0)
	}
	for name, i := range map[string]int{"e": 0, "m": 1, "\xff": 3, "": -1, "n": -1, "a": -1, "f": -1, "E": -1, "\xfe": -1, "�": -1} {
		got, ok := check.Enum(s, name)
		found(t, "Enum "+name, got, ok, at(s.Enums, i), i >= 0)
	}
	for name, i := range map[string]int{"f": 0, "g": 1, "m": 3, "": -1, "a": -1, "c": -1, "n": -1, "e": -1, "F": -1} {
		got, ok := check.Method(s, name)
		found(t, "Method "+name, got, ok, at(s.Methods, i), i >= 0)
	}
}

// at is the one at i; zero, if i is below 0.
func at[T any](l []T, i int) T {
	var zero T
	if i < 0 {
		return zero
	}
	return l[i]
}

// P7.2: fields by their tags, and reserved numbers, in a message as it stands.
func TestByTag(t *testing.T) {
	m := twice().Messages[1]
	for tag, i := range map[int]int{1: 0, 2: 1, 0: 4, -7: 5, 3: -1, 7: -1, 9: -1, 501: -1, 1<<32 + 1: -1, math.MinInt: -1, math.MaxInt: -1} {
		got, ok := check.Field(m, tag)
		found(t, "Field", got, ok, at(m.Fields, i), i >= 0)
	}
	for tag, want := range map[int]bool{3: true, 0: true, 1: false, 2: false, 4: false, -3: false, 9: false, 1<<32 + 3: false, math.MinInt: false, math.MaxInt: false} {
		if got := check.Reserved(m, tag); got != want {
			t.Errorf("Reserved %d: %v", tag, got)
		}
	}
}

// P7.2: of what has nothing there is nothing.
func TestNothingThere(t *testing.T) {
	for _, s := range []api.Schema{{}, {Name: "a"}, {Messages: []api.Message{}, Enums: []api.Enumeration{}, Methods: []api.Method{}}} {
		for _, name := range []string{"", "a", "\xff"} {
			m, a := check.Message(s, name)
			x, b := check.Enum(s, name)
			f, c := check.Method(s, name)
			found(t, "Message", m, a, api.Message{}, false)
			found(t, "Enum", x, b, api.Enumeration{}, false)
			found(t, "Method", f, c, api.Method{}, false)
		}
	}
	for _, m := range []api.Message{{}, {Name: "m", Fields: []api.Field{}, Reserved: []int{}}} {
		for _, tag := range []int{-1, 0, 1, 500} {
			f, ok := check.Field(m, tag)
			found(t, "Field", f, ok, api.Field{}, false)
			if check.Reserved(m, tag) {
				t.Error(tag)
			}
		}
	}
	m, ok := check.Message(api.Schema{Messages: []api.Message{{Fields: []api.Field{}, Reserved: []int{}}}}, "")
	if !ok || m.Name != "" || len(m.Fields) != 0 || len(m.Reserved) != 0 {
		t.Error(m, ok)
	}
}

// P7.2: all that is in a schema that may be is found as it is.
func TestAllFound(t *testing.T) {
	for _, s := range []api.Schema{shop(), of(10, 6, 6, 16, 32, 16)} {
		for _, m := range s.Messages {
			got, ok := check.Message(s, m.Name)
			found(t, m.Name, got, ok, m, true)
			for _, f := range m.Fields {
				got, ok := check.Field(m, f.Tag)
				found(t, f.Name, got, ok, f, true)
			}
			for tag := -1; tag <= api.MaxTag+1; tag++ {
				if check.Reserved(m, tag) != slices.Contains(m.Reserved, tag) {
					t.Errorf("%s: Reserved %d", m.Name, tag)
				}
			}
		}
		for _, x := range s.Enums {
			got, ok := check.Enum(s, x.Name)
			found(t, x.Name, got, ok, x, true)
		}
		for _, f := range s.Methods {
			got, ok := check.Method(s, f.Name)
			found(t, f.Name, got, ok, f, true)
		}
	}
}

// P7.2: the first of many, and far behind many others.
func TestLongLists(t *testing.T) {
	const n = 1 << 16
	m := api.Message{Name: "m", Fields: make([]api.Field, n), Reserved: make([]int, n)}
	m.Fields = append(m.Fields, field("a", 5), field("b", 5))
	m.Reserved = append(m.Reserved, 5)
	s := api.Schema{Messages: append(make([]api.Message, n), m), Enums: make([]api.Enumeration, n), Methods: make([]api.Method, n)}
	s.Enums = append(s.Enums, api.Enumeration{Name: "e", Values: make([]api.Named, n)})
	s.Methods = append(s.Methods, api.Method{Name: "f", In: "a"}, api.Method{Name: "f"})
	got, ok := check.Message(s, "m")
	found(t, "Message", got, ok, m, true)
	x, ok := check.Enum(s, "e")
	found(t, "Enum", x, ok, s.Enums[n], true)
	f, ok := check.Method(s, "f")
	found(t, "Method", f, ok, s.Methods[n], true)
	y, ok := check.Field(got, 5)
	found(t, "Field", y, ok, field("a", 5), true)
	if !check.Reserved(got, 5) || check.Reserved(got, 6) {
		t.Error("Reserved")
	}
}

// fill writes to all of a list, spare room too.
func fill[T any](l []T, x T) {
	l = l[:cap(l)]
	for i := range l {
		l[i] = x
	}
}

// R3: what is answered is new memory, and what is handed in stays as it is.
func TestMemory(t *testing.T) {
	s := twice()
	room := make([]api.Field, 0, 20)
	s.Messages[1].Fields = append(room, s.Messages[1].Fields...)
	s.Messages[1].Reserved = append(make([]int, 0, 20), s.Messages[1].Reserved...)
	s.Enums[0].Values = append(make([]api.Named, 0, 20), s.Enums[0].Values...)
	before := deep(s)
	a, _ := check.Message(s, "m")
	b, _ := check.Message(s, "m")
	x, _ := check.Enum(s, "e")
	y, _ := check.Enum(s, "e")
	fill(a.Fields, field("spoilt", 77))
	fill(a.Reserved, 77)
	fill(x.Values, api.Named{Name: "spoilt", N: 77})
	if !reflect.DeepEqual(s, before) || !reflect.DeepEqual(b, before.Messages[1]) || !reflect.DeepEqual(y, before.Enums[0]) {
		t.Error("an answer shares memory with a schema, or with another answer")
	}
	if room[:20][19] != (api.Field{}) || s.Messages[1].Reserved[:20][19] != 0 || s.Enums[0].Values[:20][19] != (api.Named{}) {
		t.Error("an answer shares spare room with a schema")
	}
	fill(s.Messages[1].Fields, field("spoilt", 78))
	fill(s.Messages[1].Reserved, 78)
	fill(s.Enums[0].Values, api.Named{Name: "spoilt", N: 78})
	if !reflect.DeepEqual(b, before.Messages[1]) || !reflect.DeepEqual(y, before.Enums[0]) {
		t.Error("a schema shares memory with an answer")
	}
}

// R3: a list without anything is answered without the spare room of the one handed in.
func TestSpareRoomOfNothing(t *testing.T) {
	s := api.Schema{
		Messages: []api.Message{{Name: "m", Fields: make([]api.Field, 0, 4), Reserved: make([]int, 0, 4)}},
		Enums:    []api.Enumeration{{Name: "e", Values: make([]api.Named, 0, 4)}},
	}
	m, a := check.Message(s, "m")
	x, b := check.Enum(s, "e")
	if !a || !b || len(m.Fields) != 0 || len(m.Reserved) != 0 || len(x.Values) != 0 {
		t.Error(m, a, x, b)
	}
	fill(m.Fields, field("spoilt", 77))
	fill(m.Reserved, 77)
	fill(x.Values, api.Named{Name: "spoilt", N: 77})
	if s.Messages[0].Fields[:1][0] != (api.Field{}) || s.Messages[0].Reserved[:1][0] != 0 || s.Enums[0].Values[:1][0] != (api.Named{}) {
		t.Error("an answer shares spare room with a schema")
	}
}

// R3, R4: calls of P7.2 turn nothing, and tell the same again.
func TestFindsTurnNothing(t *testing.T) {
	d := dice{rand.New(rand.NewSource(8))}
	for range 500 {
		s := d.schema()
		before := deep(s)
		for range 2 {
			for _, name := range []string{"x", "y", "a", "b", ""} {
				m, a := check.Message(s, name)
				i := slices.Index(texts(s.Messages, messageName), name)
				if a != (i >= 0) || a && m.Name != name || a && len(m.Fields) != len(s.Messages[i].Fields) {
					t.Fatalf("Message %q of %s: %s, %v", name, short(s), short(m), a)
				}
				x, b := check.Enum(s, name)
				i = slices.Index(texts(s.Enums, enumName), name)
				if b != (i >= 0) || b && !slices.Equal(x.Values, s.Enums[i].Values) {
					t.Fatalf("Enum %q of %s: %s, %v", name, short(s), short(x), b)
				}
				f, c := check.Method(s, name)
				i = slices.Index(texts(s.Methods, methodName), name)
				if c != (i >= 0) || f != at(s.Methods, i) {
					t.Fatalf("Method %q of %s: %s, %v", name, short(s), short(f), c)
				}
			}
		}
		if !reflect.DeepEqual(s, before) {
			t.Fatalf("turned %s to %s", short(before), short(s))
		}
	}
}
