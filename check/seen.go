package check

import (
	"concordat/api"
	"concordat/runes"
)

// seen is what is there: names or numbers that stand ahead, or types.
type seen[K comparable] map[K]struct{}

func (s seen[K]) has(k K) bool {
	_, ok := s[k]
	return ok
}

// add tells whether k was not there; then it is.
func (s seen[K]) add(k K) bool {
	if s.has(k) {
		return false
	}
	s[k] = struct{}{}
	return true
}

// newName tells whether a text is a name, and none of those ahead; then it
// stands among them.
func newName(ahead seen[string], name string) bool {
	return runes.Name(name) && ahead.add(name)
}

// newTag is newName of a field's number.
func newTag(ahead seen[int], tag int) bool {
	return tag >= 1 && tag <= api.MaxTag && ahead.add(tag)
}

func messageType(name string) api.Type { return api.Type{Kind: api.Msg, Name: name} }

// typesOf are all types that a field of s may have, as a whole each: so what
// a field has is held against kind and name at once. Names that are none are
// taken here: their own place tells them.
func typesOf(s api.Schema) seen[api.Type] {
	types := seen[api.Type]{
		{Kind: api.Int32}: {},
		{Kind: api.Int64}: {},
		{Kind: api.Bool}:  {},
		{Kind: api.Text}:  {},
		{Kind: api.Bytes}: {},
	}
	for _, m := range s.Messages {
		types[messageType(m.Name)] = struct{}{}
	}
	for _, x := range s.Enums {
		types[api.Type{Kind: api.Enum, Name: x.Name}] = struct{}{}
	}
	return types
}
