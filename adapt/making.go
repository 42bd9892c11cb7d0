package adapt

import (
	"slices"

	"concordat/api"
	"concordat/check"
)

// pair is the names of a message of the schema that values come from and of one of that they go to.
type pair struct{ from, to string }

// making is two schemas that check takes, the pairs of their messages in the order in which they came, and the place of each.
type making struct {
	from, to api.Schema
	pairs    []pair
	places   map[pair]int
}

// place is where the part of a pair stands; one that is not there yet gets the next place.
func (m *making) place(p pair) int {
	at, ok := m.places[p]
	if !ok {
		at = len(m.pairs)
		m.places[p] = at
		m.pairs = append(m.pairs, p)
	}
	return at
}

// parts is a part of each pair, of those too that come while it goes on.
func (m *making) parts() [][]api.Step {
	var l [][]api.Step
	for i := 0; i < len(m.pairs); i++ {
		l = append(l, m.part(m.pairs[i]))
	}
	return l
}

func (m *making) part(p pair) []api.Step {
	a, _ := check.Message(m.from, p.from)
	b, _ := check.Message(m.to, p.to)
	slices.SortFunc(a.Fields, byTag) // a's lists are its own: check answers new memory
	var l []api.Step
	for _, f := range a.Fields {
		g, ok := check.Field(b, f.Tag)
		if !ok || f.Label != g.Label {
			continue
		}
		if s, ok := m.step(f, g); ok {
			l = append(l, s)
		}
	}
	return l
}

func byTag(f, g api.Field) int { return f.Tag - g.Tag }

// step is what is done with what f has, that it may stand in g; false, if that can't be.
func (m *making) step(f, g api.Field) (api.Step, bool) {
	was, is := f.Type.Kind, g.Type.Kind
	switch {
	case was == api.Msg && is == api.Msg:
		return m.into(f, g), true
	case was == is, was == api.Int32 && is == api.Int64:
		return api.Step{Op: api.StepKeep, Tag: f.Tag}, true
	case was == api.Int64 && is == api.Int32:
		return api.Step{Op: api.StepClamp, Tag: f.Tag}, true
	}
	return api.Step{}, false
}

// into is the step of two fields of messages.
func (m *making) into(f, g api.Field) api.Step {
	op := api.StepInto
	if f.Label == api.One {
		op = IntoOne
	}
	return api.Step{Op: op, Tag: f.Tag, Sub: m.place(pair{f.Type.Name, g.Type.Name})}
}
