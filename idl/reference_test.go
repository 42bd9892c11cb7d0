package idl_test

import (
	"regexp"
	"slices"
	"strings"

	"concordat/api"
	"concordat/lex"
)

// The tests' own reader is the chapter's grammar as a table of places: at each
// of them some tokens may stand, each leads to another place. The grammar has
// nothing that stands in itself, so that is enough.
const (
	aName   = "<name>"
	aNumber = "<number>"
)

// keys are the words that are no names.
var keys = []string{"schema", "message", "enum", "call", "returns", "reserved", "optional", "repeated", "int32", "int64", "bool", "text", "bytes"}

const letters = `a-zA-Z_\x{c0}-\x{d6}\x{d8}-\x{f6}\x{f8}-\x{24f}\x{391}-\x{3a1}\x{3a3}-\x{3c9}`

var (
	nameForm   = regexp.MustCompile(`^[` + letters + `][` + letters + `0-9]{0,19}$`)
	numberForm = regexp.MustCompile(`^(0|[1-9][0-9]{0,9})$`)
)

// begun is what was read so far; the last one of each list is still read.
type begun struct {
	s     api.Schema
	label int
	kind  api.Type
}

func (b *begun) message() *api.Message { return &b.s.Messages[len(b.s.Messages)-1] }

func (b *begun) field() *api.Field { return &b.message().Fields[len(b.message().Fields)-1] }

func (b *begun) enum() *api.Enumeration { return &b.s.Enums[len(b.s.Enums)-1] }

func (b *begun) method() *api.Method { return &b.s.Methods[len(b.s.Methods)-1] }

// way leads from a place to another one, if the token is of this form (a word
// or sign stands for itself).
type way struct {
	from, form, to string
	do             func(b *begun, text string)
}

func pass(*begun, string) {}

func labelled(label int) func(*begun, string) {
	return func(b *begun, _ string) { b.label = label }
}

func scalar(kind int) func(*begun, string) {
	return func(b *begun, _ string) { b.kind = api.Type{Kind: kind} }
}

func byName(b *begun, text string) { b.kind = api.Type{Kind: api.Msg, Name: text} }

// types are the ways of a type.
func types(from string) []way {
	return []way{
		{from, "int32", "field", scalar(api.Int32)},
		{from, "int64", "field", scalar(api.Int64)},
		{from, "bool", "field", scalar(api.Bool)},
		{from, "text", "field", scalar(api.Text)},
		{from, "bytes", "field", scalar(api.Bytes)},
		{from, aName, "field", byName},
	}
}

var ways = slices.Concat(schemaWays(), messageWays(), types("message{"), types("label"), enumWays(), callWays())

func schemaWays() []way {
	return []way{
		{"", "schema", "schema", pass},
		{"schema", aName, "schema name", func(b *begun, text string) { b.s.Name = text }},
		{"schema name", ";", "end", pass},
		{"end", "message", "message", pass},
		{"end", "enum", "enum", pass},
		{"end", "call", "call", pass},
	}
}

func messageWays() []way {
	return []way{
		{"message", aName, "message name", func(b *begun, text string) {
			b.s.Messages = append(b.s.Messages, api.Message{Name: text})
		}},
		{"message name", "{", "message{", pass},
		{"message{", "}", "end", pass},
		{"message{", "reserved", "reserved", pass},
		{"reserved", aNumber, "reserved number", func(b *begun, text string) {
			b.message().Reserved = append(b.message().Reserved, value(text))
		}},
		{"reserved number", ",", "reserved", pass},
		{"reserved number", ";", "message{", pass},
		{"message{", "optional", "label", labelled(api.Optional)},
		{"message{", "repeated", "label", labelled(api.Repeated)},
		{"field", aName, "field name", func(b *begun, text string) {
			f := api.Field{Name: text, Label: b.label, Type: b.kind}
			if f.Label == 0 {
				f.Label = api.One
			}
			b.label = 0
			b.message().Fields = append(b.message().Fields, f)
		}},
		{"field name", "=", "field=", pass},
		{"field=", aNumber, "field number", func(b *begun, text string) { b.field().Tag = value(text) }},
		{"field number", ";", "message{", pass},
	}
}

func enumWays() []way {
	return []way{
		{"enum", aName, "enum name", func(b *begun, text string) {
			b.s.Enums = append(b.s.Enums, api.Enumeration{Name: text})
		}},
		{"enum name", "{", "enum{", pass},
		{"enum{", "}", "end", pass},
		{"enum{", aName, "value name", func(b *begun, text string) {
			b.enum().Values = append(b.enum().Values, api.Named{Name: text})
		}},
		{"value name", "=", "value=", pass},
		{"value=", aNumber, "value number", func(b *begun, text string) {
			b.enum().Values[len(b.enum().Values)-1].N = value(text)
		}},
		{"value number", ";", "enum{", pass},
	}
}

func callWays() []way {
	return []way{
		{"call", aName, "call name", func(b *begun, text string) {
			b.s.Methods = append(b.s.Methods, api.Method{Name: text})
		}},
		{"call name", "(", "in(", pass},
		{"in(", aName, "in name", func(b *begun, text string) { b.method().In = text }},
		{"in name", ")", "in)", pass},
		{"in)", "returns", "returns", pass},
		{"returns", "(", "out(", pass},
		{"out(", aName, "out name", func(b *begun, text string) { b.method().Out = text }},
		{"out name", ")", "out)", pass},
		{"out)", ";", "end", pass},
	}
}

func value(digits string) int {
	n := 0
	for i := range len(digits) {
		n = n*10 + int(digits[i]) - '0'
	}
	return n
}

func fits(form, text string) bool {
	switch form {
	case aName:
		return nameForm.MatchString(text) && !slices.Contains(keys, text)
	case aNumber:
		return numberForm.MatchString(text)
	}
	return form == text
}

// follow is the way from a place by a token.
func follow(from, text string) (way, bool) {
	for _, w := range ways {
		if w.from == from && fits(w.form, text) {
			return w, true
		}
	}
	return way{}, false
}

// answer is what Parse answers.
type answer struct {
	s  api.Schema
	at int
	e  api.Errno
}

// read is what Parse is to answer, by the table.
func read(s string) answer {
	tokens, at, e := lex.Tokens(s)
	if e != api.OK {
		return answer{at: at, e: e}
	}
	var b begun
	place := ""
	for _, t := range tokens {
		w, ok := follow(place, t.Text)
		if !ok {
			return answer{at: t.At, e: api.ErrSyntax}
		}
		w.do(&b, t.Text)
		place = w.to
	}
	if place != "end" {
		return answer{at: len(s), e: api.ErrSyntax}
	}
	kinds(b.s)
	return answer{s: b.s}
}

// kinds makes the types by name what they are.
func kinds(s api.Schema) {
	for _, m := range s.Messages {
		for i, f := range m.Fields {
			named := func(e api.Enumeration) bool { return e.Name == f.Type.Name }
			if f.Type.Name != "" && slices.ContainsFunc(s.Enums, named) {
				m.Fields[i].Type.Kind = api.Enum
			}
		}
	}
}

// paths are, for each place of the table, tokens that lead to it.
func paths() map[string][]string {
	all := map[string][]string{"": nil}
	for more := true; more; {
		more = false
		for _, w := range ways {
			from, ok := all[w.from]
			if _, there := all[w.to]; !ok || there {
				continue
			}
			all[w.to] = slices.Concat(from, []string{sample(w.form)})
			more = true
		}
	}
	return all
}

// sample is a token of a form.
func sample(form string) string {
	switch form {
	case aName:
		return "größe"
	case aNumber:
		return "7"
	}
	return form
}

// joined is a text of tokens, a blank between them.
func joined(tokens []string) string { return strings.Join(tokens, " ") }
