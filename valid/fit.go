package valid

import (
	"slices"

	"concordat/api"
	"concordat/check"
	"concordat/runes"
	"concordat/value"
)

// Valid tells whether a value is one of a message.
func Valid(s api.Schema, name string, t api.Tree) api.Errno {
	if check.Check(s) != api.OK {
		return api.ErrArg
	}
	if _, ok := check.Message(s, name); !ok {
		return api.ErrNone
	}
	if !value.Check(t) || t.Kind != api.TreeMsg {
		return api.ErrArg
	}
	return fitting{schema: s, known: map[claim]struct{}{}}.message(name, t)
}

// claim is that a tree is one of a message.
type claim struct {
	name string
	tree identity
}

// fitting is a walk through a tree that value's Check says yes to, so it is not deep. A tree may stand in several places, in each of them again: what is known of it is not asked twice, so that the walk ends soon.
type fitting struct {
	schema api.Schema
	known  map[claim]struct{} // those that hold: the first that does not is the walk's end
}

// message is Valid, of a message that the schema has.
func (w fitting) message(name string, t api.Tree) api.Errno {
	c := claim{name: name, tree: identityOf(t)}
	if _, ok := w.known[c]; ok {
		return api.OK
	}
	m, _ := check.Message(w.schema, name)
	for _, e := range t.Entries {
		if err := w.entry(m, e); err != api.OK {
			return err
		}
	}
	if slices.ContainsFunc(t.Rest, func(r api.Raw) bool { return hasField(m, r.Tag) }) {
		return api.ErrTag
	}
	w.known[c] = struct{}{}
	return api.OK
}

func hasField(m api.Message, tag int) bool {
	_, ok := check.Field(m, tag)
	return ok
}

func (w fitting) entry(m api.Message, e api.Entry) api.Errno {
	f, ok := check.Field(m, e.Tag)
	if !ok {
		return api.ErrTag
	}
	if f.Label != api.Repeated && len(e.Trees) > 1 {
		return api.ErrBig
	}
	for _, t := range e.Trees {
		if err := w.tree(f.Type, t); err != api.OK {
			return err
		}
		if f.Label == api.One && Zero(t) {
			return api.ErrEmpty
		}
	}
	return api.OK
}

// tree tells whether a tree is one of a type, whatever the label.
func (w fitting) tree(y api.Type, t api.Tree) api.Errno {
	switch {
	case t.Kind != kindOf(y):
		return api.ErrType
	case t.Kind == api.TreeNum && !Number(y, t.N):
		return api.ErrRange
	case y.Kind == api.Text && !runes.Valid(t.S):
		return api.ErrText
	case t.Kind == api.TreeMsg:
		return w.message(y.Name, t)
	}
	return api.OK
}
