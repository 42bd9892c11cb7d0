package print_test

import (
	"bytes"
	"math"
	"text/template"

	"concordat/api"
)

// least is l by rising numbers: again and again the first of those with the
// least number is taken out.
func least[T any](l []T, number func(T) int) []T {
	rest := append([]T{}, l...)
	var out []T
	for len(rest) > 0 {
		first, n := 0, math.MaxInt
		for i := len(rest) - 1; i >= 0; i-- {
			if number(rest[i]) <= n {
				first, n = i, number(rest[i])
			}
		}
		out = append(out, rest[first])
		rest = append(rest[:first], rest[first+1:]...)
	}
	return out
}

// canonOf is what Canon must answer; empty lists are nil.
func canonOf(s api.Schema) api.Schema {
	out := api.Schema{Name: s.Name}
	for _, m := range s.Messages {
		out.Messages = append(out.Messages, api.Message{
			Name:     m.Name,
			Fields:   least(m.Fields, func(f api.Field) int { return f.Tag }),
			Reserved: least(m.Reserved, func(n int) int { return n }),
		})
	}
	for _, x := range s.Enums {
		out.Enums = append(out.Enums, api.Enumeration{Name: x.Name, Values: least(x.Values, func(v api.Named) int { return v.N })})
	}
	for _, m := range s.Methods {
		out.Methods = append(out.Methods, m)
	}
	return out
}

// The form of a text, as the chapter tells it.
var form = template.Must(template.New("").Funcs(template.FuncMap{
	"label": func(n int) string { return map[int]string{2: "optional ", 3: "repeated "}[n] },
	"word": func(t api.Type) string {
		w, ok := map[int]string{1: "int32", 2: "int64", 3: "bool", 4: "text", 5: "bytes"}[t.Kind]
		if !ok {
			w = t.Name
		}
		return w
	},
}).Parse(`schema {{.Name}};
{{range .Messages}}message {{.Name}} {
{{range .Fields}}  {{label .Label}}{{word .Type}} {{.Name}} = {{.Tag}};
{{end}}{{if .Reserved}}  reserved {{range $i, $n := .Reserved}}{{if $i}}, {{end}}{{$n}}{{end}};
{{end}}}
{{end}}{{range .Enums}}enum {{.Name}} {
{{range .Values}}  {{.Name}} = {{.N}};
{{end}}}
{{end}}{{range .Methods}}call {{.Name}}({{.In}}) returns ({{.Out}});
{{end}}`))

// textOf is what Print must answer.
func textOf(s api.Schema) string {
	var b bytes.Buffer
	if err := form.Execute(&b, canonOf(s)); err != nil {
		panic(err)
	}
	return b.String()
}
