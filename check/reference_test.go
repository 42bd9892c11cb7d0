package check_test

import (
	"regexp"
	"slices"

	"concordat/api"
)

// The tests' own check gathers all faults of a schema, in no order, each with
// its place in the promise's order: the step's number, then which one, which
// part of it, which one of that part, and so on. The least place is answered.
type fault struct {
	place []int
	e     api.Errno
}

type faults []fault

func (l *faults) add(wrong bool, e api.Errno, place ...int) {
	if wrong {
		*l = append(*l, fault{place, e})
	}
}

func (l faults) first() api.Errno {
	if len(l) == 0 {
		return api.OK
	}
	return slices.MinFunc(l, func(a, b fault) int { return slices.Compare(a.place, b.place) }).e
}

const letters = `a-zA-Z_\x{c0}-\x{d6}\x{d8}-\x{f6}\x{f8}-\x{24f}\x{391}-\x{3a1}\x{3a3}-\x{3c9}`

var (
	nameForm = regexp.MustCompile(`^[` + letters + `][` + letters + `0-9]{0,19}$`)
	keyForm  = regexp.MustCompile(`^(schema|message|enum|call|returns|reserved|optional|repeated|int32|int64|bool|text|bytes)$`)
)

// badName tells whether the name at i of l is none, or one ahead.
func badName(l []string, i int) bool {
	return !nameForm.MatchString(l[i]) || keyForm.MatchString(l[i]) || slices.Contains(l[:i], l[i])
}

// badNumber tells whether the number at i of l is out of its range, or one ahead.
func badNumber(l []int, i, least, most int) bool {
	return l[i] < least || l[i] > most || slices.Contains(l[:i], l[i])
}

func texts[T any](l []T, name func(T) string) []string {
	var out []string
	for _, x := range l {
		out = append(out, name(x))
	}
	return out
}

func numbers[T any](l []T, number func(T) int) []int {
	var out []int
	for _, x := range l {
		out = append(out, number(x))
	}
	return out
}

func messageName(m api.Message) string  { return m.Name }
func enumName(x api.Enumeration) string { return x.Name }
func methodName(m api.Method) string    { return m.Name }

// reference is what Check must answer.
func reference(s api.Schema) api.Errno {
	var l faults
	l.add(badName([]string{s.Name}, 0), api.ErrName, 1)
	l.add(len(s.Messages) == 0, api.ErrEmpty, 2, 0)
	l.add(len(s.Messages) > 10 || len(s.Enums) > 6 || len(s.Methods) > 6, api.ErrBig, 2, 1)
	kinds := append(texts(s.Messages, messageName), texts(s.Enums, enumName)...)
	for i, m := range s.Messages {
		l.add(badName(kinds, i), api.ErrName, 3, i, 0)
		l.message(s, m, i)
	}
	for i, x := range s.Enums {
		l.add(badName(kinds, len(s.Messages)+i), api.ErrName, 4, i, 0)
		l.enum(x, i)
	}
	calls := texts(s.Methods, methodName)
	for i, m := range s.Methods {
		l.add(badName(calls, i), api.ErrName, 5, i, 0)
		l.add(!isMessage(s, m.In) || !isMessage(s, m.Out), api.ErrType, 5, i, 1)
	}
	return l.first()
}

func (l *faults) message(s api.Schema, m api.Message, i int) {
	l.add(len(m.Fields) > 16 || len(m.Reserved) > 32, api.ErrBig, 3, i, 1)
	for j := range m.Reserved {
		l.add(badNumber(m.Reserved, j, 1, 500), api.ErrTag, 3, i, 2, j)
	}
	names := texts(m.Fields, func(f api.Field) string { return f.Name })
	tags := numbers(m.Fields, func(f api.Field) int { return f.Tag })
	for j, f := range m.Fields {
		l.add(badName(names, j), api.ErrName, 3, i, 3, j, 0)
		l.add(badNumber(tags, j, 1, 500) || slices.Contains(m.Reserved, f.Tag), api.ErrTag, 3, i, 3, j, 1)
		l.add(badType(s, f), api.ErrType, 3, i, 3, j, 2)
	}
}

func badType(s api.Schema, f api.Field) bool {
	if f.Label < 1 || f.Label > 3 || f.Type.Kind < 1 || f.Type.Kind > 7 {
		return true
	}
	switch f.Type.Kind {
	case api.Enum:
		return !slices.Contains(texts(s.Enums, enumName), f.Type.Name)
	case api.Msg:
		return !isMessage(s, f.Type.Name)
	}
	return f.Type.Name != ""
}

func isMessage(s api.Schema, name string) bool {
	return slices.Contains(texts(s.Messages, messageName), name)
}

func (l *faults) enum(x api.Enumeration, i int) {
	names := texts(x.Values, func(v api.Named) string { return v.Name })
	ns := numbers(x.Values, func(v api.Named) int { return v.N })
	l.add(len(ns) > 16, api.ErrBig, 4, i, 1)
	l.add(!slices.Contains(ns, 0), api.ErrEmpty, 4, i, 2)
	for j := range ns {
		l.add(badName(names, j), api.ErrName, 4, i, 3, j, 0)
		l.add(badNumber(ns, j, 0, 1<<31-1), api.ErrRange, 4, i, 3, j, 1)
	}
}
