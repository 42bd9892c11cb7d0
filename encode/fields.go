package encode

import (
	"concordat/api"
	"concordat/wire"
)

// A tree is one of these, by its kind.
type (
	number  int
	text    string
	message api.Tree
)

// contentOf is what a tree is. One that value's Check says yes to has no kind but the three.
func contentOf(t api.Tree) any {
	switch t.Kind {
	case api.TreeNum:
		return number(t.N)
	case api.TreeText:
		return text(t.S)
	}
	return message(t)
}

// encoding is a walk through a tree that value's Check says yes to, so it is not deep. A message may stand in several places, in each of them again: its bytes are made once, so that the walk ends soon.
type encoding struct {
	made map[identity]encoded // those that have bytes: the first that has too many is the walk's end
}

type encoded struct {
	bytes string
}

// fields is Raws, of a message.
func (w encoding) fields(t api.Tree) ([]api.Raw, api.Errno) {
	var out []api.Raw
	for _, e := range t.Entries {
		for _, x := range e.Trees {
			r, err := w.field(e.Tag, x)
			if err != api.OK {
				return nil, err
			}
			out = append(out, r)
		}
	}
	return wire.Sorted(append(out, t.Rest...)), api.OK
}

// field is a tree on the wire.
func (w encoding) field(tag int, t api.Tree) (api.Raw, api.Errno) {
	r := api.Raw{Tag: tag, Wire: api.WireText}
	switch x := contentOf(t).(type) {
	case number:
		r.Wire, r.N = api.WireNum, int(x)
	case text:
		// wire takes no such field either, but says so by another error.
		if len(x) > api.MaxBytes {
			return api.Raw{}, api.ErrBig
		}
		r.B = string(x)
	case message:
		b, err := w.bytes(api.Tree(x))
		if err != api.OK {
			return api.Raw{}, err
		}
		r.B = b
	}
	return r, api.OK
}

// bytes is Encode, of a message in a message.
func (w encoding) bytes(t api.Tree) (string, api.Errno) {
	at := identityOf(t)
	if known, ok := w.made[at]; ok {
		return known.bytes, api.OK
	}
	l, err := w.fields(t)
	if err != api.OK {
		return "", err
	}
	b, err := wire.PutAll(l)
	if err != api.OK {
		return "", err
	}
	known := encoded{bytes: string(b)}
	w.made[at] = known
	return known.bytes, api.OK
}

// place is where a list stands.
type place[T any] struct {
	first *T
	count int
}

func placeOf[T any](l []T) place[T] {
	if len(l) == 0 {
		return place[T]{}
	}
	return place[T]{first: &l[0], count: len(l)}
}

// identity is by what a message is known again: those of one identity are one message in several places.
type identity struct {
	entries place[api.Entry]
	rest    place[api.Raw]
}

func identityOf(t api.Tree) identity {
	return identity{entries: placeOf(t.Entries), rest: placeOf(t.Rest)}
}
