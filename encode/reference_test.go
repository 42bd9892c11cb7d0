package encode_test

import (
	"encoding/binary"
	"fmt"
	"math/rand"
	"reflect"
	"slices"
	"strings"

	"concordat/api"
	"concordat/value"
)

func num(n int) api.Tree { return api.Tree{Kind: api.TreeNum, N: n} }

func str(s string) api.Tree { return api.Tree{Kind: api.TreeText, S: s} }

func msg(l ...api.Entry) api.Tree { return api.Tree{Kind: api.TreeMsg, Entries: l} }

func at(tag int, l ...api.Tree) api.Entry { return api.Entry{Tag: tag, Trees: l} }

// with is t with that rest.
func with(t api.Tree, l ...api.Raw) api.Tree {
	t.Rest = l
	return t
}

func rawNum(tag, n int) api.Raw { return api.Raw{Tag: tag, N: n} }

func rawText(tag int, s string) api.Raw { return api.Raw{Tag: tag, Wire: api.WireText, B: s} }

// long is a text of that many bytes.
func long(n int) api.Tree { return str(strings.Repeat("a", n)) }

// wrap is t in that many messages.
func wrap(t api.Tree, n int) api.Tree {
	for range n {
		t = msg(at(1, t))
	}
	return t
}

// ring is a message that stands in itself, beside the trees ahead of it.
func ring(ahead ...api.Tree) api.Tree {
	l := append(slices.Clone(ahead), api.Tree{})
	l[len(ahead)] = msg(at(1, l...))
	return l[len(ahead)]
}

// isSmall tells whether a tree, written out, has fewer trees than are left.
func isSmall(t api.Tree, left *int) bool {
	*left--
	for _, e := range t.Entries {
		for _, x := range e.Trees {
			if *left <= 0 || !isSmall(x, left) {
				return false
			}
		}
	}
	return *left > 0
}

func short(x any) string {
	left := 10000
	if t, ok := x.(api.Tree); ok && !isSmall(t, &left) {
		return "a great tree"
	}
	s := strings.ToValidUTF8(fmt.Sprintf("%+v", x), "?")
	if len(s) > 600 {
		return s[:600] + ".."
	}
	return s
}

// plain is t in memory of its own, with nil for every empty list: they are one.
func plain(t api.Tree) api.Tree {
	var entries []api.Entry
	for _, e := range t.Entries {
		var trees []api.Tree
		for _, x := range e.Trees {
			trees = append(trees, plain(x))
		}
		entries = append(entries, api.Entry{Tag: e.Tag, Trees: trees})
	}
	t.Entries = entries
	t.Rest = append([]api.Raw(nil), t.Rest...)
	return t
}

// equal tells whether two trees are one, part by part.
func equal(a, b api.Tree) bool { return reflect.DeepEqual(plain(a), plain(b)) }

// raws is what Raws must answer of a tree that is small when it is written out.
func raws(t api.Tree) ([]api.Raw, api.Errno) {
	if !value.Check(t) || t.Kind != 3 {
		return nil, api.ErrArg
	}
	byTag := map[int][]api.Raw{}
	for _, e := range t.Entries {
		for _, x := range e.Trees {
			r := api.Raw{Tag: e.Tag, Wire: 1, B: x.S}
			if x.Kind == 1 {
				r = api.Raw{Tag: e.Tag, N: x.N}
			} else if x.Kind == 3 {
				b, err := bytesOf(x)
				if err != api.OK {
					return nil, err
				}
				r.B = string(b)
			}
			if len(r.B) > 4096 {
				return nil, api.ErrBig
			}
			byTag[e.Tag] = append(byTag[e.Tag], r)
		}
	}
	for _, r := range t.Rest {
		byTag[r.Tag] = append(byTag[r.Tag], r)
	}
	var out []api.Raw
	for tag := 1; tag <= 500; tag++ {
		out = append(out, byTag[tag]...)
	}
	return out, api.OK
}

// bytesOf is what Encode must answer of a tree that is small when it is written out.
func bytesOf(t api.Tree) ([]byte, api.Errno) {
	l, err := raws(t)
	if err != api.OK {
		return nil, err
	}
	b := []byte{}
	for _, r := range l {
		b = binary.AppendUvarint(b, uint64(r.Tag*2+r.Wire))
		if r.Wire == 0 {
			b = binary.AppendVarint(b, int64(r.N))
		} else {
			b = append(binary.AppendUvarint(b, uint64(len(r.B))), r.B...)
		}
	}
	if len(b) > 4096 {
		return nil, api.ErrBig
	}
	return b, api.OK
}

func pick[T any](r *rand.Rand, l ...T) T { return l[r.Intn(len(l))] }

// someMessage is a message that may be, with at most depth in it.
func someMessage(r *rand.Rand, depth int) api.Tree {
	t := msg()
	for tag := 1 + r.Intn(3); tag <= 500; tag += pick(r, 1, 1, 2, 3, 62, 400) {
		if r.Intn(6) == 0 {
			break
		}
		if r.Intn(3) == 0 {
			for range 1 + r.Intn(3) {
				t.Rest = append(t.Rest, pick(r, rawNum(tag, someNumber(r)), rawText(tag, someText(r))))
			}
			continue
		}
		t.Entries = append(t.Entries, someEntry(r, tag, depth))
	}
	return t
}

func someEntry(r *rand.Rand, tag, depth int) api.Entry {
	kind := 1 + r.Intn(3)
	if depth == 0 && kind == 3 {
		kind = 1
	}
	e := at(tag)
	for range pick(r, 1, 1, 1, 2, 3) {
		switch kind {
		case 1:
			e.Trees = append(e.Trees, num(someNumber(r)))
		case 2:
			e.Trees = append(e.Trees, str(someText(r)))
		case 3:
			e.Trees = append(e.Trees, someMessage(r, depth-1))
		}
	}
	return e
}

func someNumber(r *rand.Rand) int {
	return pick(r, 0, 1, -1, 63, 64, -64, -65, 1<<31, 1<<63-1, -1<<63, r.Intn(1<<20))
}

func someText(r *rand.Rand) string {
	return pick(r, "", "", "a", "b", "\x00", "\xff\xc3", "größe", "\x02\x0a", "\x03\x00", strings.Repeat("x", r.Intn(300)))
}

// spoil turns one part of t, or of a message in it.
func spoil(r *rand.Rand, t *api.Tree) {
	if len(t.Entries) == 0 || r.Intn(4) == 0 {
		*t = pick(r, num(1), str("a"), api.Tree{}, api.Tree{Kind: 3, N: 1}, long(4096), long(4097), msg(at(1, long(4094))), msg(at(1, long(4093))), with(*t, rawNum(0, 0)), with(*t, rawNum(1, 0)))
		return
	}
	e := &t.Entries[r.Intn(len(t.Entries))]
	switch r.Intn(5) {
	case 0:
		e.Tag = pick(r, 0, -1, 1, 2, e.Tag+1, 500, 501)
	case 1:
		e.Trees = slices.Repeat(e.Trees, pick(r, 0, 2, 20, 64, 65))
	default:
		if len(e.Trees) > 0 {
			spoil(r, &e.Trees[r.Intn(len(e.Trees))])
		}
	}
}
