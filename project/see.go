package project

import (
	"slices"

	"concordat/api"
	"concordat/check"
	"concordat/runes"
	"concordat/valid"
)

// seeing is a walk through a tree that value's Check says yes to, so it is not deep. A message may stand in several places, in each of them again: what is seen of it is made once, and is one there, too, so that the walk ends soon.
type seeing struct {
	schema api.Schema
	made   map[view]api.Tree
}

// view is of a tree, by a message.
type view struct {
	name string
	tree identity
}

// message is Project, by a message that the schema has.
func (w seeing) message(name string, t api.Tree) api.Tree {
	at := view{name: name, tree: identityOf(t)}
	if known, ok := w.made[at]; ok {
		return known
	}
	m, _ := check.Message(w.schema, name)
	out := api.Tree{Kind: api.TreeMsg}
	for _, e := range t.Entries {
		if seen, ok := w.entry(m, e); ok {
			out.Entries = append(out.Entries, seen)
		}
	}
	w.made[at] = out
	return out
}

// entry is what a message sees of an entry; false, if that is nothing.
func (w seeing) entry(m api.Message, e api.Entry) (api.Entry, bool) {
	f, ok := check.Field(m, e.Tag)
	if !ok || slices.ContainsFunc(e.Trees, func(t api.Tree) bool { return !fits(f.Type, t) }) {
		return api.Entry{}, false
	}
	trees := w.trees(f, e.Trees)
	if f.Label == api.One && valid.Zero(trees[0]) {
		return api.Entry{}, false
	}
	return api.Entry{Tag: e.Tag, Trees: trees}, true
}

// fits tells whether a tree is of a type's kind, and such as the type asks. What a kind asks more than a wider one of the same trees comes first; then it falls to that one.
func fits(y api.Type, t api.Tree) bool {
	switch y.Kind {
	case api.Bool, api.Enum:
		// Not so an Int32: what is beyond its ends is cut.
		if !valid.Number(y, t.N) {
			return false
		}
		fallthrough
	case api.Int32, api.Int64:
		return t.Kind == api.TreeNum
	case api.Text:
		if !runes.Valid(t.S) {
			return false
		}
		fallthrough
	case api.Bytes:
		return t.Kind == api.TreeText
	}
	return t.Kind == api.TreeMsg
}

// trees are what a field sees of trees that fit.
func (w seeing) trees(f api.Field, l []api.Tree) []api.Tree {
	if f.Label != api.Repeated {
		l = l[len(l)-1:]
	}
	out := make([]api.Tree, len(l))
	for i, t := range l {
		out[i] = w.tree(f.Type, t)
	}
	return out
}

func (w seeing) tree(y api.Type, t api.Tree) api.Tree {
	switch y.Kind {
	case api.Int32:
		return api.Tree{Kind: t.Kind, N: Clamp(t.N)}
	case api.Msg:
		return w.message(y.Name, t)
	}
	// Part by part: even a number's tree may come with the spare room of lists.
	return api.Tree{Kind: t.Kind, N: t.N, S: t.S}
}

// place is where a list stands.
type place[T any] struct {
	first *T
	count int
}

func placeOf[T any](l []T) place[T] {
	if len(l) == 0 {
		return place[T]{}
	}
	return place[T]{first: &l[0], count: len(l)}
}

// identity is by what a message is known again: those of one identity are one message in several places.
type identity struct {
	entries place[api.Entry]
	rest    place[api.Raw]
}

func identityOf(t api.Tree) identity {
	return identity{entries: placeOf(t.Entries), rest: placeOf(t.Rest)}
}
