package adapt_test

import (
	"fmt"
	"reflect"
	"slices"
	"strings"
	"testing"

	"concordat/adapt"
	"concordat/api"
	"concordat/check"
	"concordat/idl"
)

func short(x any) string {
	s := strings.ToValidUTF8(fmt.Sprintf("%+v", x), "?")
	if len(s) > 900 {
		return s[:900] + ".."
	}
	return s
}

// schema is what a text says, if it may be.
func schema(t *testing.T, text string) api.Schema {
	t.Helper()
	s, at, e := idl.Parse(text)
	if e != api.OK || check.Check(s) != api.OK {
		t.Fatal(text, at, e, check.Check(s))
	}
	return s
}

// deep is s in memory of its own; empty lists stay what they are.
func deep(s api.Schema) api.Schema {
	s.Messages, s.Enums, s.Methods = slices.Clone(s.Messages), slices.Clone(s.Enums), slices.Clone(s.Methods)
	for i, m := range s.Messages {
		s.Messages[i].Fields, s.Messages[i].Reserved = slices.Clone(m.Fields), slices.Clone(m.Reserved)
	}
	for i, x := range s.Enums {
		s.Enums[i].Values = slices.Clone(x.Values)
	}
	return s
}

func keep(tag int) api.Step { return api.Step{Op: 1, Tag: tag} }

func clamp(tag int) api.Step { return api.Step{Op: 2, Tag: tag} }

func into(tag, sub int) api.Step { return api.Step{Op: 3, Tag: tag, Sub: sub} }

func intoOne(tag, sub int) api.Step { return api.Step{Op: 4, Tag: tag, Sub: sub} }

func part(l ...api.Step) []api.Step { return l }

func program(l ...[]api.Step) adapt.Program { return adapt.Program{Parts: l} }

// equal tells whether two programs are the same, without a call of what is tested.
func equal(p, q adapt.Program) bool {
	return fmt.Sprintf("%+v", p) == fmt.Sprintf("%+v", q)
}

// makes ends the test, if Make does not answer a program that may be, and want, twice, or turns what is handed in.
func makes(t *testing.T, from, to api.Schema, a, b string, want adapt.Program) adapt.Program {
	t.Helper()
	x, y := deep(from), deep(to)
	var got adapt.Program
	for range 2 {
		var e api.Errno
		got, e = adapt.Make(from, to, a, b)
		if e != api.OK || !equal(got, want) {
			t.Fatalf("Make(%q, %q): %+v, %v; want %+v\n%s\n%s", a, b, got, e, want, short(from), short(to))
		}
		if !adapt.Check(got) || !adapt.Same(got, want) || !adapt.Same(want, got) {
			t.Fatalf("%+v may not be, or is not the same as itself", got)
		}
	}
	if !reflect.DeepEqual(from, x) || !reflect.DeepEqual(to, y) {
		t.Fatalf("Make turned %s to %s, %s to %s", short(x), short(from), short(y), short(to))
	}
	return got
}

// refuses ends the test, if Make does not answer that error, and no parts.
func refuses(t *testing.T, from, to api.Schema, a, b string, want api.Errno) {
	t.Helper()
	x, y := deep(from), deep(to)
	if got, e := adapt.Make(from, to, a, b); e != want || got.Parts != nil {
		t.Fatalf("Make(%q, %q): %+v, %v; want %v\n%s\n%s", a, b, got, e, want, short(from), short(to))
	}
	if !reflect.DeepEqual(from, x) || !reflect.DeepEqual(to, y) {
		t.Fatalf("Make turned %s to %s, %s to %s", short(x), short(from), short(y), short(to))
	}
}

// texts ends the test, if Make of what the texts say, from m to m, is not that.
func texts(t *testing.T, from, to string, want ...[]api.Step) adapt.Program {
	t.Helper()
	return makes(t, schema(t, from), schema(t, to), "m", "m", program(want...))
}

// is holds Make against the reference.
func is(t *testing.T, from, to api.Schema, a, b string) (adapt.Program, api.Errno) {
	t.Helper()
	want, e := reference(from, to, a, b)
	if e != api.OK {
		refuses(t, from, to, a, b, e)
		return want, e
	}
	return makes(t, from, to, a, b, want), e
}

// tagged are a message's fields, by tags; false, if there is no such message.
func tagged(s api.Schema, name string) ([501]api.Field, bool) {
	var l [501]api.Field
	for _, m := range s.Messages {
		if m.Name == name {
			for _, f := range m.Fields {
				l[f.Tag] = f
			}
			return l, true
		}
	}
	return l, false
}

// reference is Make, word by word: a row of pairs that is gone through till its end is there.
func reference(from, to api.Schema, a, b string) (adapt.Program, api.Errno) {
	if check.Check(from) != api.OK || check.Check(to) != api.OK {
		return adapt.Program{}, api.ErrArg
	}
	_, was := tagged(from, a)
	_, is := tagged(to, b)
	if !was || !is {
		return adapt.Program{}, api.ErrNone
	}
	row := [][2]string{{a, b}}
	var p adapt.Program
	for i := 0; i < len(row); i++ {
		x, _ := tagged(from, row[i][0])
		y, _ := tagged(to, row[i][1])
		var l []api.Step
		for tag := 1; tag <= 500; tag++ {
			f, g := x[tag], y[tag]
			if f.Label == 0 || f.Label != g.Label {
				continue
			}
			switch kinds := [2]int{f.Type.Kind, g.Type.Kind}; kinds {
			case [2]int{1, 1}, [2]int{2, 2}, [2]int{3, 3}, [2]int{4, 4}, [2]int{5, 5}, [2]int{6, 6}, [2]int{1, 2}:
				l = append(l, keep(tag))
			case [2]int{2, 1}:
				l = append(l, clamp(tag))
			case [2]int{7, 7}:
				next := [2]string{f.Type.Name, g.Type.Name}
				if !slices.Contains(row, next) {
					row = append(row, next)
				}
				l = append(l, api.Step{Op: [4]int{0, 4, 3, 3}[f.Label], Tag: tag, Sub: slices.Index(row, next)})
			}
		}
		p.Parts = append(p.Parts, l)
	}
	return p, api.OK
}

// referenceCheck is Check, word by word.
func referenceCheck(p adapt.Program) bool {
	good := len(p.Parts) >= 1 && len(p.Parts) <= 100
	for _, l := range p.Parts {
		for i, s := range l {
			good = good && 1 <= s.Tag && s.Tag <= 500 && (i == 0 || l[i-1].Tag < s.Tag)
			good = good && slices.Contains([]int{1, 2, 3, 4}, s.Op)
			good = good && s.Sub >= 0 && s.Sub < len(p.Parts) && (s.Op > 2 || s.Sub == 0)
		}
	}
	return good
}
