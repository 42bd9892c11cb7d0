package check

import (
	"slices"

	"concordat/api"
)

// Message is a schema's message of a name.
func Message(s api.Schema, name string) (api.Message, bool) {
	for _, m := range s.Messages {
		if m.Name == name {
			m.Fields, m.Reserved = fresh(m.Fields), fresh(m.Reserved)
			return m, true
		}
	}
	return api.Message{}, false
}

// Enum is a schema's enumeration of a name.
func Enum(s api.Schema, name string) (api.Enumeration, bool) {
	for _, x := range s.Enums {
		if x.Name == name {
			x.Values = fresh(x.Values)
			return x, true
		}
	}
	return api.Enumeration{}, false
}

// Method is a schema's method of a name.
func Method(s api.Schema, name string) (api.Method, bool) {
	for _, m := range s.Methods {
		if m.Name == name {
			return m, true
		}
	}
	return api.Method{}, false
}

// Field is a message's field of a tag.
func Field(m api.Message, tag int) (api.Field, bool) {
	for _, f := range m.Fields {
		if f.Tag == tag {
			return f, true
		}
	}
	return api.Field{}, false
}

// Reserved tells whether a tag is reserved.
func Reserved(m api.Message, tag int) bool { return slices.Contains(m.Reserved, tag) }

// fresh is a list in memory of its own: what is answered may be written to.
func fresh[T any](l []T) []T { return append([]T(nil), l...) }
