package decode

import (
	"maps"
	"slices"

	"concordat/api"
	"concordat/check"
	"concordat/runes"
	"concordat/valid"
	"concordat/wire"
)

// message is Decode, of a schema that check says OK of, and of a message that deep.
func message(s api.Schema, name string, b []byte, depth int) (api.Tree, api.Errno) {
	m, ok := check.Message(s, name)
	if !ok {
		return api.Tree{}, api.ErrNone
	}
	fields, err := wire.Get(b)
	if err != api.OK {
		return api.Tree{}, err
	}
	known := map[int][]api.Tree{} // by tags
	var rest []api.Raw
	handle := func(r api.Raw) api.Errno {
		f, ok := check.Field(m, r.Tag)
		if !ok {
			rest = append(rest, r)
			return api.OK
		}
		t, err := tree(s, f.Type, r, depth)
		if err != api.OK {
			return err
		}
		return put(known, f, t)
	}
	for _, r := range fields {
		if err := handle(r); err != api.OK {
			return api.Tree{}, err
		}
	}
	return api.Tree{Kind: api.TreeMsg, Entries: entries(known), Rest: wire.Sorted(rest)}, api.OK
}

// tree is a field's value by its type, in a message that deep.
func tree(s api.Schema, y api.Type, r api.Raw, depth int) (api.Tree, api.Errno) {
	if r.Wire != wireOf(y) {
		return api.Tree{}, api.ErrType
	}
	switch y.Kind {
	case api.Bool, api.Enum:
		// Not so an Int32: a later schema may have made an Int64 of it, whose numbers are to go on as they came.
		if !valid.Number(y, r.N) {
			return api.Tree{}, api.ErrRange
		}
	case api.Text:
		if !runes.Valid(r.B) {
			return api.Tree{}, api.ErrText
		}
	case api.Msg:
		if depth >= api.MaxDepth {
			return api.Tree{}, api.ErrDeep
		}
		return message(s, y.Name, []byte(r.B), depth+1)
	}
	return leaf(r), api.OK
}

// wireOf is the wire type of a type that check says OK of.
func wireOf(y api.Type) int {
	switch y.Kind {
	case api.Text, api.Bytes, api.Msg:
		return api.WireText
	}
	return api.WireNum
}

// leaf is a field as a number or a text.
func leaf(r api.Raw) api.Tree {
	if r.Wire == api.WireText {
		return api.Tree{Kind: api.TreeText, S: r.B}
	}
	return api.Tree{Kind: api.TreeNum, N: r.N}
}

// put puts a field's value to those of its message.
func put(known map[int][]api.Tree, f api.Field, t api.Tree) api.Errno {
	switch {
	case f.Label == api.Repeated:
		if len(known[f.Tag]) == api.MaxItems {
			return api.ErrBig
		}
		known[f.Tag] = append(known[f.Tag], t)
	case f.Label == api.One && valid.Zero(t):
		// An earlier one may be there: it does not count any more.
		delete(known, f.Tag)
	default:
		known[f.Tag] = []api.Tree{t}
	}
	return api.OK
}

func entries(known map[int][]api.Tree) []api.Entry {
	var out []api.Entry
	for _, tag := range slices.Sorted(maps.Keys(known)) {
		out = append(out, api.Entry{Tag: tag, Trees: known[tag]})
	}
	return out
}
