package project_test

import (
	"fmt"
	"math/rand"
	"reflect"
	"slices"
	"strings"
	"testing"
	"unicode/utf8"

	"concordat/api"
	"concordat/check"
	"concordat/idl"
)

func num(n int) api.Tree { return api.Tree{Kind: api.TreeNum, N: n} }

func str(s string) api.Tree { return api.Tree{Kind: api.TreeText, S: s} }

func msg(l ...api.Entry) api.Tree { return api.Tree{Kind: api.TreeMsg, Entries: l} }

func at(tag int, l ...api.Tree) api.Entry { return api.Entry{Tag: tag, Trees: l} }

// with is t with that rest.
func with(t api.Tree, l ...api.Raw) api.Tree {
	t.Rest = l
	return t
}

func rawNum(tag, n int) api.Raw { return api.Raw{Tag: tag, N: n} }

func rawText(tag int, s string) api.Raw { return api.Raw{Tag: tag, Wire: api.WireText, B: s} }

// wrap is t in that many messages, under that tag each.
func wrap(t api.Tree, tag, n int) api.Tree {
	for range n {
		t = msg(at(tag, t))
	}
	return t
}

// ring is a message that stands in itself under that tag, beside the trees ahead of it.
func ring(tag int, ahead ...api.Tree) api.Tree {
	l := append(slices.Clone(ahead), api.Tree{})
	l[len(ahead)] = msg(at(tag, l...))
	return l[len(ahead)]
}

func short(x any) string {
	s := strings.ToValidUTF8(fmt.Sprintf("%+v", x), "?")
	if len(s) > 600 {
		return s[:600] + ".."
	}
	return s
}

// schema is what a text says, if it may be.
func schema(t *testing.T, text string) api.Schema {
	t.Helper()
	s, at, e := idl.Parse(text)
	if e != api.OK || check.Check(s) != api.OK {
		t.Fatal(text, at, e, check.Check(s))
	}
	return s
}

// all has a field of each kind and each label: the tag's tens are the label, its ones the kind.
const all = `schema s;
message m {
	int32 a11 = 11; int64 a12 = 12; bool a13 = 13; text a14 = 14; bytes a15 = 15; e a16 = 16; m a17 = 17;
	optional int32 a21 = 21; optional text a24 = 24; optional e a26 = 26; optional m a27 = 27;
	repeated int32 a31 = 31; repeated text a34 = 34; repeated bytes a35 = 35; repeated m a37 = 37;
	n other = 47;
	reserved 1, 41, 500;
}
message n {
	optional int64 b22 = 22; optional bool b23 = 23; optional bytes b25 = 25; optional n b27 = 27;
	repeated int64 b32 = 32; repeated bool b33 = 33; repeated e b36 = 36; repeated n b37 = 37;
	text one = 1;
	m back = 47;
}
message empty { }
enum e { zero = 0; nine = 9; }
call f(m) returns (n);`

// treeKind is the kind of a tree by its type's, 1 to 7.
func treeKind(kind int) int { return [8]int{0, 1, 1, 1, 2, 2, 1, 3}[kind] }

// plain is t in memory of its own, with nil for every empty list: they are one.
func plain(t api.Tree) api.Tree {
	var entries []api.Entry
	for _, e := range t.Entries {
		var trees []api.Tree
		for _, x := range e.Trees {
			trees = append(trees, plain(x))
		}
		entries = append(entries, api.Entry{Tag: e.Tag, Trees: trees})
	}
	t.Entries = entries
	t.Rest = append([]api.Raw(nil), t.Rest...)
	return t
}

// equal tells whether two trees are one, part by part.
func equal(a, b api.Tree) bool { return reflect.DeepEqual(plain(a), plain(b)) }

func isZero(t api.Tree) bool { return equal(t, api.Tree{Kind: t.Kind}) }

// seen is what Project must answer of a schema that may be, and a tree that may be and is small when it is written out: each tree is seen first, then what is too much is taken away.
func seen(s api.Schema, name string, t api.Tree) api.Tree {
	out := msg()
	i := slices.IndexFunc(s.Messages, func(m api.Message) bool { return m.Name == name })
	for _, e := range t.Entries {
		for _, f := range s.Messages[i].Fields {
			if f.Tag != e.Tag {
				continue
			}
			var l []api.Tree
			for _, x := range e.Trees {
				if y, ok := seenTree(s, f.Type, x); ok {
					l = append(l, y)
				}
			}
			if len(l) < len(e.Trees) {
				continue
			}
			for f.Label != 3 && len(l) > 1 {
				l = l[1:]
			}
			if f.Label != 1 || !isZero(l[0]) {
				out.Entries = append(out.Entries, at(e.Tag, l...))
			}
		}
	}
	return out
}

func seenTree(s api.Schema, y api.Type, t api.Tree) (api.Tree, bool) {
	if t.Kind != treeKind(y.Kind) {
		return api.Tree{}, false
	}
	switch y.Kind {
	case 1:
		return num(cut(t.N)), true
	case 2:
		return num(t.N), true
	case 3:
		return num(t.N), t.N == 0 || t.N == 1
	case 4:
		return str(t.S), utf8.ValidString(t.S)
	case 5:
		return str(t.S), true
	case 6:
		return num(t.N), t.N>>31 == 0
	}
	return seen(s, y.Name, t), true
}

// cut is what Clamp must answer: what 32 bits don't keep is an end, by its sign.
func cut(n int) int {
	switch {
	case int(int32(n)) == n:
		return n
	case n < 0:
		return -1 << 31
	}
	return 1<<31 - 1
}

func pick[T any](r *rand.Rand, l ...T) T { return l[r.Intn(len(l))] }

// fitting is a tree that is a message's, with at most depth in it; with a rest here and there, if it shall have one.
func fitting(r *rand.Rand, s api.Schema, name string, depth int, rest bool) api.Tree {
	t := msg()
	m, _ := check.Message(s, name)
	fields := slices.Clone(m.Fields)
	slices.SortFunc(fields, func(a, b api.Field) int { return a.Tag - b.Tag })
	for _, f := range fields {
		if r.Intn(4) > 0 || f.Type.Kind == 7 && depth == 0 {
			continue
		}
		l := []api.Tree{fittingField(r, s, f, depth, rest)}
		for f.Label == 3 && r.Intn(2) == 0 {
			l = append(l, fittingField(r, s, f, depth, rest))
		}
		if f.Label != 1 || !isZero(l[0]) {
			t.Entries = append(t.Entries, at(f.Tag, l...))
		}
	}
	for _, tag := range []int{1, 2, 41, 300, 500} {
		if _, ok := check.Field(m, tag); !ok && rest && r.Intn(6) == 0 {
			t.Rest = append(t.Rest, rawNum(tag, r.Intn(2)), rawText(tag, "a"))
		}
	}
	return t
}

func fittingField(r *rand.Rand, s api.Schema, f api.Field, depth int, rest bool) api.Tree {
	switch f.Type.Kind {
	case 1:
		return num(pick(r, 0, 1, -1, -1<<31, 1<<31-1))
	case 2:
		return num(pick(r, 0, 1, -1, 1<<31, 1<<32, -1<<31-1, -1<<63, 1<<63-1))
	case 3:
		return num(r.Intn(2))
	case 4:
		return str(pick(r, "", "a", "größe", "\x00"))
	case 5:
		return str(pick(r, "", "a", "\xff", "\xc3"))
	case 6:
		return num(pick(r, 0, 5, 9, 1<<31-1))
	}
	return fitting(r, s, f.Type.Name, depth-1, rest)
}

// anyMessage is a message that may be, whatever the schema says, with at most depth in it.
func anyMessage(r *rand.Rand, depth int, tags ...int) api.Tree {
	t := msg()
	var left []int
	for _, tag := range slices.Sorted(slices.Values(tags)) {
		if r.Intn(3) > 0 {
			left = append(left, tag)
			continue
		}
		kind := pick(r, 1, 1, 2, 3)
		if depth == 0 {
			kind = pick(r, 1, 2)
		}
		l := []api.Tree{anyTree(r, kind, depth, tags...)}
		for r.Intn(3) == 0 {
			l = append(l, anyTree(r, kind, depth, tags...))
		}
		t.Entries = append(t.Entries, at(tag, l...))
	}
	for _, tag := range left {
		if r.Intn(10) == 0 {
			t.Rest = append(t.Rest, rawNum(tag, r.Intn(2)), rawText(tag, "a"))
		}
	}
	return t
}

func anyTree(r *rand.Rand, kind, depth int, tags ...int) api.Tree {
	switch kind {
	case 1:
		return num(pick(r, 0, 0, 1, 1, 1, 2, 9, -1, -1<<31, 1<<31-1, 1<<31, -1<<31-1, 1<<32, 1<<32+1, 1<<40, -1<<40, 1<<63-1, -1<<63))
	case 2:
		return str(pick(r, "", "", "a", "a", "b", "größe", "\xff", "a\xc3", "\xed\xa0\x80", "\xc0\x80", "\U0010ffff"))
	}
	return anyMessage(r, depth-1, tags...)
}

// anySchema has messages m and n of fields of those tags, of any kinds and labels.
func anySchema(r *rand.Rand, tags ...int) api.Schema {
	s := api.Schema{Name: "s", Enums: []api.Enumeration{{Name: "e", Values: []api.Named{{Name: "o"}, {Name: "p", N: r.Intn(9) + 1}}}}}
	for _, name := range []string{"m", "n"} {
		m := api.Message{Name: name}
		for i, j := range r.Perm(len(tags)) {
			if r.Intn(4) == 0 {
				continue
			}
			y := api.Type{Kind: 1 + r.Intn(7)}
			switch y.Kind {
			case 6:
				y.Name = "e"
			case 7:
				y.Name = pick(r, "m", "n")
			}
			m.Fields = append(m.Fields, api.Field{Name: "a" + string(rune('a'+i)), Tag: tags[j], Label: 1 + r.Intn(3), Type: y})
		}
		s.Messages = append(s.Messages, m)
	}
	return s
}
