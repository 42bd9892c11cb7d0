package valid_test

import (
	"fmt"
	"math/rand"
	"reflect"
	"slices"
	"strings"
	"testing"
	"unicode/utf8"

	"concordat/api"
	"concordat/check"
	"concordat/idl"
	"concordat/value"
)

func num(n int) api.Tree { return api.Tree{Kind: api.TreeNum, N: n} }

func str(s string) api.Tree { return api.Tree{Kind: api.TreeText, S: s} }

func msg(l ...api.Entry) api.Tree { return api.Tree{Kind: api.TreeMsg, Entries: l} }

func at(tag int, l ...api.Tree) api.Entry { return api.Entry{Tag: tag, Trees: l} }

// with is t with that rest.
func with(t api.Tree, l ...api.Raw) api.Tree {
	t.Rest = l
	return t
}

func rawNum(tag, n int) api.Raw { return api.Raw{Tag: tag, N: n} }

func rawText(tag int, s string) api.Raw { return api.Raw{Tag: tag, Wire: api.WireText, B: s} }

// wrap is t in that many messages, under that tag each.
func wrap(t api.Tree, tag, n int) api.Tree {
	for range n {
		t = msg(at(tag, t))
	}
	return t
}

// ring is a message that stands in itself under that tag, beside the trees ahead of it.
func ring(tag int, ahead ...api.Tree) api.Tree {
	l := append(slices.Clone(ahead), api.Tree{})
	l[len(ahead)] = with(msg(at(tag, l...)), rawNum(400, 1))
	return l[len(ahead)]
}

// shared is last in n messages, in each of which one stands count times under that tag: they are one in memory.
func shared(last api.Tree, tag, n, count int) api.Tree {
	for range n {
		last = msg(at(tag, slices.Repeat([]api.Tree{last}, count)...))
	}
	return last
}

func short(x any) string {
	s := strings.ToValidUTF8(fmt.Sprintf("%+v", x), "?")
	if len(s) > 600 {
		return s[:600] + ".."
	}
	return s
}

// schema is what a text says, if it may be.
func schema(t *testing.T, text string) api.Schema {
	t.Helper()
	s, at, e := idl.Parse(text)
	if e != api.OK || check.Check(s) != api.OK {
		t.Fatal(text, at, e, check.Check(s))
	}
	return s
}

// all has a field of each kind and each label: the tag's tens are the label, its ones the kind.
const all = `schema s;
message m {
	int32 a11 = 11; int64 a12 = 12; bool a13 = 13; text a14 = 14; bytes a15 = 15; e a16 = 16; m a17 = 17;
	optional int32 a21 = 21; optional text a24 = 24; optional e a26 = 26; optional m a27 = 27;
	repeated int32 a31 = 31; repeated text a34 = 34; repeated bytes a35 = 35; repeated m a37 = 37;
	n other = 47;
	reserved 1, 41, 500;
}
message n {
	optional int64 b22 = 22; optional bool b23 = 23; optional bytes b25 = 25; optional n b27 = 27;
	repeated int64 b32 = 32; repeated bool b33 = 33; repeated e b36 = 36; repeated n b37 = 37;
	text one = 1;
	m back = 47;
}
message empty { }
enum e { zero = 0; nine = 9; }
call f(m) returns (n);`

// numberMayBe is what Number must answer.
func numberMayBe(kind, n int) bool {
	return kind == 1 && n >= -1<<31 && n <= 1<<31-1 || kind == 2 || kind == 3 && (n == 0 || n == 1) || kind == 6 && n >= 0 && n <= 1<<31-1
}

// isZero is what Zero must answer.
func isZero(t api.Tree) bool {
	kind := t.Kind
	t.Kind = 0
	return kind >= 1 && kind <= 3 && reflect.DeepEqual(plain(t), api.Tree{})
}

// fits is what Valid must answer of a tree that is small when it is written out.
func fits(s api.Schema, name string, t api.Tree) api.Errno {
	if check.Check(s) != api.OK {
		return api.ErrArg
	}
	i := slices.IndexFunc(s.Messages, func(m api.Message) bool { return m.Name == name })
	if i < 0 {
		return api.ErrNone
	}
	if !value.Check(t) || t.Kind != 3 {
		return api.ErrArg
	}
	fields := map[int]api.Field{}
	for _, f := range s.Messages[i].Fields {
		fields[f.Tag] = f
	}
	for _, e := range t.Entries {
		if err := entryFits(s, fields, e); err != api.OK {
			return err
		}
	}
	for _, r := range t.Rest {
		if _, ok := fields[r.Tag]; ok {
			return api.ErrTag
		}
	}
	return api.OK
}

func entryFits(s api.Schema, fields map[int]api.Field, e api.Entry) api.Errno {
	f, ok := fields[e.Tag]
	if !ok {
		return api.ErrTag
	}
	if f.Label != 3 && len(e.Trees) > 1 {
		return api.ErrBig
	}
	for _, x := range e.Trees {
		if x.Kind != treeKind(f.Type.Kind) {
			return api.ErrType
		}
		if x.Kind == 1 && !numberMayBe(f.Type.Kind, x.N) {
			return api.ErrRange
		}
		if f.Type.Kind == 4 && !utf8.ValidString(x.S) {
			return api.ErrText
		}
		if f.Type.Kind == 7 {
			if err := fits(s, f.Type.Name, x); err != api.OK {
				return err
			}
		}
		if f.Label == 1 && isZero(x) {
			return api.ErrEmpty
		}
	}
	return api.OK
}

// treeKind is the kind of a tree by its type's, 1 to 7.
func treeKind(kind int) int { return [8]int{0, 1, 1, 1, 2, 2, 1, 3}[kind] }

// has is what Get must answer of a schema that may be, and a tree that may be.
func has(s api.Schema, name string, t api.Tree, tag int) ([]api.Tree, bool) {
	for _, m := range s.Messages {
		for _, f := range m.Fields {
			if m.Name != name || f.Tag != tag || t.Kind != 3 {
				continue
			}
			for _, e := range t.Entries {
				if e.Tag == tag {
					return e.Trees, true
				}
			}
			if f.Label == 1 {
				return []api.Tree{{Kind: treeKind(f.Type.Kind)}}, true
			}
			return nil, true
		}
	}
	return nil, false
}

// plain is t in memory of its own, with nil for every empty list: they are one.
func plain(t api.Tree) api.Tree {
	var entries []api.Entry
	for _, e := range t.Entries {
		entries = append(entries, api.Entry{Tag: e.Tag, Trees: plains(e.Trees)})
	}
	t.Entries = entries
	t.Rest = append([]api.Raw(nil), t.Rest...)
	return t
}

func plains(l []api.Tree) []api.Tree {
	var out []api.Tree
	for _, t := range l {
		out = append(out, plain(t))
	}
	return out
}

// equal tells whether two trees are one, part by part.
func equal(a, b api.Tree) bool { return reflect.DeepEqual(plain(a), plain(b)) }

// stripped is what Bare must answer of a tree that is small when it is written out.
func stripped(t api.Tree) api.Tree {
	t = plain(t)
	strip(&t)
	return t
}

func strip(t *api.Tree) {
	t.Rest = nil
	for i := range t.Entries {
		for j := range t.Entries[i].Trees {
			strip(&t.Entries[i].Trees[j])
		}
	}
}

func pick[T any](r *rand.Rand, l ...T) T { return l[r.Intn(len(l))] }

// fitting is a tree that is a message's, with at most depth in it.
func fitting(r *rand.Rand, s api.Schema, name string, depth int) api.Tree {
	t := msg()
	m, _ := check.Message(s, name)
	fields := slices.Clone(m.Fields)
	slices.SortFunc(fields, func(a, b api.Field) int { return a.Tag - b.Tag })
	for _, f := range fields {
		if r.Intn(4) > 0 || f.Type.Kind == 7 && depth == 0 {
			continue
		}
		l := []api.Tree{fittingField(r, s, f, depth)}
		for f.Label == 3 && r.Intn(2) == 0 {
			l = append(l, fittingField(r, s, f, depth))
		}
		if f.Label != 1 || !isZero(l[0]) {
			t.Entries = append(t.Entries, at(f.Tag, l...))
		}
	}
	for _, tag := range []int{1, 2, 41, 300, 500} {
		if _, ok := check.Field(m, tag); !ok && r.Intn(6) == 0 {
			t.Rest = append(t.Rest, rawNum(tag, r.Intn(2)), rawText(tag, "a"))
		}
	}
	return t
}

func fittingField(r *rand.Rand, s api.Schema, f api.Field, depth int) api.Tree {
	switch f.Type.Kind {
	case 1:
		return num(pick(r, 0, 1, -1, -1<<31, 1<<31-1))
	case 2:
		return num(pick(r, 0, 1, -1, 1<<40, -1<<63, 1<<63-1))
	case 3:
		return num(r.Intn(2))
	case 4:
		return str(pick(r, "", "a", "größe", "\x00"))
	case 5:
		return str(pick(r, "", "a", "\xff", "\xc3"))
	case 6:
		return num(pick(r, 0, 5, 9, 1<<31-1))
	}
	return fitting(r, s, f.Type.Name, depth-1)
}

// spoil turns one part of t, or of a tree in it.
func spoil(r *rand.Rand, t *api.Tree) {
	if len(t.Entries) > 0 && r.Intn(4) > 0 {
		e := &t.Entries[r.Intn(len(t.Entries))]
		if r.Intn(3) == 0 || len(e.Trees) == 0 {
			spoilEntry(r, e)
			return
		}
		spoil(r, &e.Trees[r.Intn(len(e.Trees))])
		return
	}
	switch t.Kind {
	case 1:
		*t = pick(r, num(t.N+1), num(t.N-1), num(0), num(2), num(1<<31), num(-1<<31-1), str(""), msg(), api.Tree{})
	case 2:
		*t = pick(r, str(""), str(t.S+"\xff"), str("\xed\xa0\x80"), str("a"), num(0), msg(), api.Tree{})
	default:
		spoilMessage(r, t)
	}
}

func spoilEntry(r *rand.Rand, e *api.Entry) {
	switch r.Intn(4) {
	case 0:
		e.Tag = pick(r, e.Tag+1, e.Tag-1, e.Tag+10, 1, 41, 500)
	case 1:
		e.Trees = append(e.Trees, e.Trees...)
	case 2:
		e.Trees = []api.Tree{pick(r, num(0), str(""), msg(), num(7), str("\xff"))}
	case 3:
		e.Trees = slices.Repeat([]api.Tree{pick(r, num(0), num(2), str("\x80"), str(""), msg())}, pick(r, 1, 2, 64, 65))
	}
}

func spoilMessage(r *rand.Rand, t *api.Tree) {
	switch r.Intn(4) {
	case 0:
		t.Entries = append(t.Entries, at(pick(r, 47, 48, 300, 500), pick(r, num(0), str(""), msg())))
	case 1:
		t.Rest = append(t.Rest, rawNum(pick(r, 1, 11, 22, 37, 47, 500), 0))
	case 2:
		t.Rest = []api.Raw{rawText(pick(r, 1, 11, 22, 37, 47, 300), "")}
	case 3:
		*t = pick(r, msg(), num(0), str(""), api.Tree{}, with(msg(), rawNum(300, 0)))
	}
}
