package decode_test

import (
	"encoding/binary"
	"fmt"
	"math/rand"
	"reflect"
	"slices"
	"strings"
	"testing"
	"unicode/utf8"

	"concordat/api"
	"concordat/check"
	"concordat/idl"
	"concordat/wire"
)

func num(n int) api.Tree { return api.Tree{Kind: api.TreeNum, N: n} }

func str(s string) api.Tree { return api.Tree{Kind: api.TreeText, S: s} }

func msg(l ...api.Entry) api.Tree { return api.Tree{Kind: api.TreeMsg, Entries: l} }

func at(tag int, l ...api.Tree) api.Entry { return api.Entry{Tag: tag, Trees: l} }

// with is t with that rest.
func with(t api.Tree, l ...api.Raw) api.Tree {
	t.Rest = l
	return t
}

func rawNum(tag, n int) api.Raw { return api.Raw{Tag: tag, N: n} }

func rawText(tag int, s string) api.Raw { return api.Raw{Tag: tag, Wire: api.WireText, B: s} }

// fn is a number on the wire, ft a text.
func fn(tag, n int) string {
	return string(binary.AppendVarint(binary.AppendUvarint(nil, uint64(2*tag)), int64(n)))
}

func ft(tag int, s string) string {
	return string(binary.AppendUvarint(binary.AppendUvarint(nil, uint64(2*tag+1)), uint64(len(s)))) + s
}

// bytesOf are fields, one behind the other.
func bytesOf(l []api.Raw) string {
	out := ""
	for _, r := range l {
		if r.Wire == 0 {
			out += fn(r.Tag, r.N)
		} else {
			out += ft(r.Tag, r.B)
		}
	}
	return out
}

// wrap is b in that many messages, under that tag each.
func wrap(b string, tag, n int) string {
	for range n {
		b = ft(tag, b)
	}
	return b
}

// wrapped is t in that many messages, under that tag each.
func wrapped(t api.Tree, tag, n int) api.Tree {
	for range n {
		t = msg(at(tag, t))
	}
	return t
}

func short(x any) string {
	s := strings.ToValidUTF8(fmt.Sprintf("%+v", x), "?")
	if len(s) > 600 {
		return s[:600] + ".."
	}
	return s
}

// schema is what a text says, if it may be.
func schema(t *testing.T, text string) api.Schema {
	t.Helper()
	s, at, e := idl.Parse(text)
	if e != api.OK || check.Check(s) != api.OK {
		t.Fatal(text, at, e, check.Check(s))
	}
	return s
}

// all has a field of each kind and each label: the tag's tens are the label, its ones the kind.
const all = `schema s;
message m {
	int32 a11 = 11; int64 a12 = 12; bool a13 = 13; text a14 = 14; bytes a15 = 15; e a16 = 16; m a17 = 17;
	optional int32 a21 = 21; optional text a24 = 24; optional e a26 = 26; optional m a27 = 27;
	repeated int32 a31 = 31; repeated text a34 = 34; repeated bytes a35 = 35; repeated m a37 = 37;
	n other = 47;
	reserved 1, 41, 500;
}
message n {
	optional int64 b22 = 22; optional bool b23 = 23; optional bytes b25 = 25; optional n b27 = 27;
	repeated int64 b32 = 32; repeated bool b33 = 33; repeated e b36 = 36; repeated n b37 = 37;
	text one = 1;
	m back = 47;
}
message empty { }
enum e { zero = 0; nine = 9; }
call f(m) returns (n);`

// plain is t in memory of its own, with nil for every empty list: they are one.
func plain(t api.Tree) api.Tree {
	var entries []api.Entry
	for _, e := range t.Entries {
		var trees []api.Tree
		for _, x := range e.Trees {
			trees = append(trees, plain(x))
		}
		entries = append(entries, api.Entry{Tag: e.Tag, Trees: trees})
	}
	t.Entries = entries
	t.Rest = append([]api.Raw(nil), t.Rest...)
	return t
}

// equal tells whether two trees are one, part by part.
func equal(a, b api.Tree) bool { return reflect.DeepEqual(plain(a), plain(b)) }

// decoded is what Decode must answer of a schema that may be: first what is wrong, then tag by tag what there is.
func decoded(s api.Schema, name, b string, depth int) (api.Tree, api.Errno) {
	i := slices.IndexFunc(s.Messages, func(m api.Message) bool { return m.Name == name })
	if i < 0 {
		return api.Tree{}, api.ErrNone
	}
	l, e := wire.Get([]byte(b))
	if e != api.OK {
		return api.Tree{}, e
	}
	fields := map[int]api.Field{}
	for _, f := range s.Messages[i].Fields {
		fields[f.Tag] = f
	}
	trees := map[int][]api.Tree{}
	for _, r := range l {
		f, ok := fields[r.Tag]
		if !ok {
			continue
		}
		x, e := fieldDecoded(s, f.Type, r, depth)
		if e != api.OK {
			return api.Tree{}, e
		}
		trees[r.Tag] = append(trees[r.Tag], x)
		if f.Label == 3 && len(trees[r.Tag]) == 65 {
			return api.Tree{}, api.ErrBig
		}
	}
	return gathered(l, fields, trees), api.OK
}

// fieldDecoded is a field's tree, but for how many there are.
func fieldDecoded(s api.Schema, y api.Type, r api.Raw, depth int) (api.Tree, api.Errno) {
	isText := y.Kind == 4 || y.Kind == 5 || y.Kind == 7
	switch {
	case isText != (r.Wire == 1):
		return api.Tree{}, api.ErrType
	case y.Kind == 3 && r.N != 0 && r.N != 1, y.Kind == 6 && (r.N < 0 || r.N > 1<<31-1):
		return api.Tree{}, api.ErrRange
	case y.Kind == 4 && !utf8.ValidString(r.B):
		return api.Tree{}, api.ErrText
	case y.Kind == 7 && depth == 10:
		return api.Tree{}, api.ErrDeep
	case y.Kind == 7:
		return decoded(s, y.Name, r.B, depth+1)
	case isText:
		return str(r.B), api.OK
	}
	return num(r.N), api.OK
}

// gathered is the message that has these fields, of which nothing is wrong.
func gathered(l []api.Raw, fields map[int]api.Field, trees map[int][]api.Tree) api.Tree {
	out := msg()
	for tag := 1; tag <= 500; tag++ {
		f, ok := fields[tag]
		if !ok {
			for _, r := range l {
				if r.Tag == tag {
					out.Rest = append(out.Rest, r)
				}
			}
			continue
		}
		these := trees[tag]
		if len(these) == 0 {
			continue
		}
		if f.Label != 3 {
			these = these[len(these)-1:]
		}
		if f.Label != 1 || !isZero(these[0]) {
			out.Entries = append(out.Entries, at(tag, these...))
		}
	}
	return out
}

func isZero(t api.Tree) bool { return equal(t, api.Tree{Kind: t.Kind}) }

// encoded is what Encode must answer of a tree that may be; its tags are gone through one by one.
func encoded(t api.Tree) string {
	out := ""
	for tag := 1; tag <= 500; tag++ {
		for _, e := range t.Entries {
			for _, x := range e.Trees {
				switch {
				case e.Tag != tag:
				case x.Kind == 1:
					out += fn(tag, x.N)
				case x.Kind == 2:
					out += ft(tag, x.S)
				default:
					out += ft(tag, encoded(x))
				}
			}
		}
		for _, r := range t.Rest {
			if r.Tag == tag {
				out += bytesOf([]api.Raw{r})
			}
		}
	}
	return out
}

func pick[T any](r *rand.Rand, l ...T) T { return l[r.Intn(len(l))] }

// fitting is a tree that is a message's, with at most depth in it.
func fitting(r *rand.Rand, s api.Schema, name string, depth int) api.Tree {
	t := msg()
	m, _ := check.Message(s, name)
	fields := slices.Clone(m.Fields)
	slices.SortFunc(fields, func(a, b api.Field) int { return a.Tag - b.Tag })
	for _, f := range fields {
		if r.Intn(4) > 0 || f.Type.Kind == 7 && depth == 0 {
			continue
		}
		l := []api.Tree{fittingField(r, s, f, depth)}
		for f.Label == 3 && r.Intn(2) == 0 {
			l = append(l, fittingField(r, s, f, depth))
		}
		if f.Label != 1 || !isZero(l[0]) {
			t.Entries = append(t.Entries, at(f.Tag, l...))
		}
	}
	for _, tag := range []int{1, 2, 22, 41, 300, 500} {
		if _, ok := check.Field(m, tag); !ok && r.Intn(6) == 0 {
			t.Rest = append(t.Rest, rawNum(tag, r.Intn(2)), rawText(tag, pick(r, "", "a", "\xff")))
		}
	}
	return t
}

func fittingField(r *rand.Rand, s api.Schema, f api.Field, depth int) api.Tree {
	switch f.Type.Kind {
	case 1:
		return num(pick(r, 0, 1, -1, -1<<31, 1<<31-1))
	case 2:
		return num(pick(r, 0, 1, -1, 1<<40, -1<<63, 1<<63-1))
	case 3:
		return num(r.Intn(2))
	case 4:
		return str(pick(r, "", "a", "größe", "\x00"))
	case 5:
		return str(pick(r, "", "a", "\xff", "\xc3"))
	case 6:
		return num(pick(r, 0, 5, 9, 1<<31-1))
	}
	return fitting(r, s, f.Type.Name, depth-1)
}

// someBytes are a message's fields in any order, some of them several times, few of them wrong.
func someBytes(r *rand.Rand, s api.Schema, name string, depth int) string {
	m, _ := check.Message(s, name)
	var l []api.Raw
	for range r.Intn(8) {
		if len(m.Fields) == 0 || r.Intn(4) == 0 {
			tag := pick(r, 1, 2, 11, 22, 41, 300, 500)
			l = append(l, pick(r, rawNum(tag, r.Intn(3)), rawText(tag, pick(r, "", "a", "\xff", "\x02"))))
			continue
		}
		f := pick(r, m.Fields...)
		x := someField(r, s, f, depth)
		l = append(l, x)
		switch r.Intn(40) {
		case 0:
			l = append(l, slices.Repeat([]api.Raw{x}, pick(r, 62, 63, 64))...)
		case 1, 2, 3:
			l = append(l, someField(r, s, f, depth))
		}
	}
	if r.Intn(4) == 0 {
		l = wire.Sorted(l)
	}
	b := bytesOf(l)
	if len(b) > 0 && r.Intn(50) == 0 {
		b = b[:r.Intn(len(b))] + pick(r, "", "\x80", "\x00", "\xff", "\x80\x00", "\xea\x07\x00") + b[r.Intn(len(b)):]
	}
	return b
}

func someField(r *rand.Rand, s api.Schema, f api.Field, depth int) api.Raw {
	if r.Intn(60) == 0 {
		return pick(r, rawNum(f.Tag, pick(r, 2, -1, 1<<31, -1<<63)), rawText(f.Tag, pick(r, "", "\xff", "\x80", "\x02", "\x00\x00")))
	}
	switch f.Type.Kind {
	case 1:
		return rawNum(f.Tag, pick(r, 0, 1, -1, 1<<31, -1<<31-1, 1<<63-1))
	case 4:
		return rawText(f.Tag, pick(r, "", "a", "größe"))
	case 5:
		return rawText(f.Tag, pick(r, "", "a", "\xff"))
	case 7:
		if depth == 0 {
			return rawText(f.Tag, "")
		}
		return rawText(f.Tag, someBytes(r, s, f.Type.Name, depth-1))
	}
	return rawNum(f.Tag, r.Intn(2))
}
