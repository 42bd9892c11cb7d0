package print

import (
	"cmp"
	"slices"

	"concordat/api"
)

// Canon is a schema in order.
func Canon(s api.Schema) api.Schema {
	s.Messages, s.Enums, s.Methods = fresh(s.Messages), fresh(s.Enums), fresh(s.Methods)
	for i, m := range s.Messages {
		s.Messages[i] = canonMessage(m)
	}
	for i, x := range s.Enums {
		s.Enums[i] = canonEnum(x)
	}
	return s
}

// canonMessage sorts stably, as canonEnum does: in a schema that may not be a
// tag may stand twice.
func canonMessage(m api.Message) api.Message {
	m.Fields, m.Reserved = fresh(m.Fields), fresh(m.Reserved)
	slices.SortStableFunc(m.Fields, byTag)
	slices.Sort(m.Reserved)
	return m
}

func canonEnum(x api.Enumeration) api.Enumeration {
	x.Values = fresh(x.Values)
	slices.SortStableFunc(x.Values, byNumber)
	return x
}

func byTag(a, b api.Field) int { return cmp.Compare(a.Tag, b.Tag) }

func byNumber(a, b api.Named) int { return cmp.Compare(a.N, b.N) }

// fresh is a list in memory of its own: it is sorted, and what is answered may
// be written to.
func fresh[T any](l []T) []T { return append([]T(nil), l...) }
