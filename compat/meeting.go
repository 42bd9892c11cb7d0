package compat

import (
	"slices"

	"concordat/api"
	"concordat/check"
)

// pair is the names of a message of the old schema and of one of the new one.
type pair struct{ old, new string }

// meeting is two schemas that check takes, and the pairs of their messages, in the order in which they came.
type meeting struct {
	old, new api.Schema
	pairs    []pair
	seen     map[pair]struct{}
}

// add puts a pair behind all that are there, if it is not: messages may lead back to each other.
func (m *meeting) add(p pair) {
	if _, ok := m.seen[p]; ok {
		return
	}
	m.seen[p] = struct{}{}
	m.pairs = append(m.pairs, p)
}

// look looks at all pairs, and at those that come while it does; it tells the first place at which the new schema may not be so.
func (m *meeting) look() (string, int, bool) {
	name, at := "", 0
pairs:
	for i := 0; i < len(m.pairs); i++ {
		a, _ := check.Message(m.old, m.pairs[i].old)
		b, _ := check.Message(m.new, m.pairs[i].new)
		for _, tag := range tags(a) {
			if !m.keeps(a, b, tag) {
				name, at = a.Name, tag
				break pairs
			}
		}
	}
	return name, at, at == 0
}

// tags is what tags a message says something of, by rising ones.
func tags(m api.Message) []int {
	l := slices.Clone(m.Reserved)
	for _, f := range m.Fields {
		l = append(l, f.Tag)
	}
	slices.Sort(l)
	return l
}

// keeps tells whether b gives a tag that a says something of no other meaning than a does.
func (m *meeting) keeps(a, b api.Message, tag int) bool {
	if check.Reserved(b, tag) {
		return true
	}
	f, was := check.Field(a, tag)
	g, is := check.Field(b, tag)
	if !was || !is || f.Label != g.Label || !Fits(m.old, m.new, f.Type, g.Type) {
		return false
	}
	if f.Type.Kind == api.Msg {
		m.add(pair{f.Type.Name, g.Type.Name})
	}
	return true
}
