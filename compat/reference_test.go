package compat_test

import (
	"fmt"
	"reflect"
	"slices"
	"strings"
	"testing"

	"concordat/api"
	"concordat/check"
	"concordat/compat"
	"concordat/idl"
)

func short(x any) string {
	s := strings.ToValidUTF8(fmt.Sprintf("%+v", x), "?")
	if len(s) > 900 {
		return s[:900] + ".."
	}
	return s
}

// schema is what a text says, if it may be.
func schema(t *testing.T, text string) api.Schema {
	t.Helper()
	s, at, e := idl.Parse(text)
	if e != api.OK || check.Check(s) != api.OK {
		t.Fatal(text, at, e, check.Check(s))
	}
	return s
}

// deep is s in memory of its own; empty lists stay what they are.
func deep(s api.Schema) api.Schema {
	s.Messages, s.Enums, s.Methods = slices.Clone(s.Messages), slices.Clone(s.Enums), slices.Clone(s.Methods)
	for i, m := range s.Messages {
		s.Messages[i].Fields, s.Messages[i].Reserved = slices.Clone(m.Fields), slices.Clone(m.Reserved)
	}
	for i, x := range s.Enums {
		s.Enums[i].Values = slices.Clone(x.Values)
	}
	return s
}

// verdict is what Evolves answers.
type verdict struct {
	name string
	tag  int
	ok   bool
}

var yes = verdict{ok: true}

// says ends the test, if Evolves does not answer want, twice, or turns what is handed in.
func says(t *testing.T, old, new api.Schema, want verdict) {
	t.Helper()
	a, b := deep(old), deep(new)
	for range 2 {
		name, tag, ok := compat.Evolves(old, new)
		if got := (verdict{name, tag, ok}); got != want {
			t.Fatalf("Evolves: %+v; want %+v\n%s\n%s", got, want, short(old), short(new))
		}
	}
	if !reflect.DeepEqual(old, a) || !reflect.DeepEqual(new, b) {
		t.Fatalf("Evolves turned %s to %s, %s to %s", short(a), short(old), short(b), short(new))
	}
}

// texts ends the test, if Evolves of what the texts say is not want.
func texts(t *testing.T, old, new string, want verdict) {
	t.Helper()
	says(t, schema(t, old), schema(t, new), want)
}

// is is says, held against the reference too.
func is(t *testing.T, old, new api.Schema) verdict {
	t.Helper()
	want := reference(old, new)
	says(t, old, new, want)
	return want
}

// meaning is all that a message says of a tag: nothing, that it is reserved, or a field.
type meaning struct {
	reserved bool
	label    int
	kind     int
	name     string
}

// meanings are a message's, by tags.
func meanings(s api.Schema, name string) [501]meaning {
	var l [501]meaning
	for _, m := range s.Messages {
		if m.Name != name {
			continue
		}
		for _, f := range m.Fields {
			l[f.Tag] = meaning{label: f.Label, kind: f.Type.Kind, name: f.Type.Name}
		}
		for _, n := range m.Reserved {
			l[n] = meaning{reserved: true}
		}
	}
	return l
}

// reference is Evolves, word by word: first all methods, then a row of pairs that is gone through till its end is there.
func reference(old, new api.Schema) verdict {
	if check.Check(old) != api.OK || check.Check(new) != api.OK {
		return verdict{}
	}
	var row [][2]string
	for _, m := range old.Methods {
		found := false
		for _, n := range new.Methods {
			if n.Name == m.Name {
				found = true
				row = append(row, [2]string{m.In, n.In}, [2]string{m.Out, n.Out})
			}
		}
		if !found {
			return verdict{name: m.Name}
		}
	}
	for i := 0; i < len(row); i++ {
		if slices.Contains(row[:i], row[i]) {
			continue
		}
		a, b := meanings(old, row[i][0]), meanings(new, row[i][1])
		for tag := range a {
			x, y := a[tag], b[tag]
			switch {
			case x == meaning{}, y.reserved:
			case x.reserved, x.label != y.label, !referenceFits(old, new, x, y):
				return verdict{name: row[i][0], tag: tag}
			case x.kind == 7:
				row = append(row, [2]string{x.name, y.name})
			}
		}
	}
	return yes
}

func referenceFits(old, new api.Schema, x, y meaning) bool {
	if x.kind == 6 && y.kind == 6 {
		return referenceEnums(old, new, x.name, y.name)
	}
	return x.kind == y.kind || x.kind == 1 && y.kind == 2
}

func referenceEnums(old, new api.Schema, a, b string) bool {
	i := slices.IndexFunc(old.Enums, func(x api.Enumeration) bool { return x.Name == a })
	j := slices.IndexFunc(new.Enums, func(x api.Enumeration) bool { return x.Name == b })
	if i < 0 || j < 0 {
		return false
	}
	for _, v := range old.Enums[i].Values {
		if !slices.Contains(new.Enums[j].Values, v) {
			return false
		}
	}
	return true
}
