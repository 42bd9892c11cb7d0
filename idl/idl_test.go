package idl_test

import (
	"fmt"
	"math/rand"
	"reflect"
	"slices"
	"strconv"
	"strings"
	"testing"
	"unsafe"

	"concordat/api"
	"concordat/idl"
	"concordat/lex"
)

func short(s string) string {
	if len(s) > 200 {
		return strconv.Quote(s[:200]) + ".."
	}
	return strconv.Quote(s)
}

// empty makes every empty list of a schema nil: they are one.
func empty(s api.Schema) api.Schema {
	s.Messages = append([]api.Message(nil), s.Messages...)
	for i, m := range s.Messages {
		s.Messages[i].Fields = append([]api.Field(nil), m.Fields...)
		s.Messages[i].Reserved = append([]int(nil), m.Reserved...)
	}
	s.Enums = append([]api.Enumeration(nil), s.Enums...)
	for i, e := range s.Enums {
		s.Enums[i].Values = append([]api.Named(nil), e.Values...)
	}
	s.Methods = append([]api.Method(nil), s.Methods...)
	return s
}

// same ends the test, if Parse(s) is not want.
func same(t *testing.T, s string, want answer) {
	t.Helper()
	a, at, e := idl.Parse(s)
	if at != want.at || e != want.e {
		t.Fatalf("Parse(%s): %d, %v; want %d, %v", short(s), at, e, want.at, want.e)
	}
	if !reflect.DeepEqual(empty(a), empty(want.s)) {
		t.Fatalf("Parse(%s): %s; want %s", short(s), short(fmt.Sprint(a)), short(fmt.Sprint(want.s)))
	}
}

// is ends the test, if Parse(s) is not this schema.
func is(t *testing.T, s string, want api.Schema) {
	t.Helper()
	same(t, s, answer{s: want})
	same(t, s, read(s))
}

// refused ends the test, if Parse(s) does not tell this error at this place.
func refused(t *testing.T, s string, at int, e api.Errno) {
	t.Helper()
	same(t, s, answer{at: at, e: e})
	same(t, s, read(s))
}

// wrongAt ends the test, if what stands behind the bar is not told as the first
// token that does not fit. The bar itself is no part of the text.
func wrongAt(t *testing.T, s string) {
	t.Helper()
	at := strings.Index(s, "|")
	refused(t, s[:at]+s[at+1:], at, api.ErrSyntax)
}

// fields is the schema a with one message m of these fields.
func fields(l ...api.Field) api.Schema {
	return api.Schema{Name: "a", Messages: []api.Message{{Name: "m", Fields: l}}}
}

func field(label, kind int) api.Field {
	return api.Field{Name: "x", Tag: 1, Label: label, Type: api.Type{Kind: kind}}
}

// P6.1: the chapter's example.
func TestExample(t *testing.T) {
	is(t, "schema a; message m { int32 x = 1; }", fields(field(api.One, api.Int32)))
}

const whole = `// a shop
schema laden;
enum größe { klein = 0; groß = 7; }
message artikel {
	int32 nummer = 1;
	optional text name = 2; reserved 9, 4, 17; // gone
	repeated größe größen = 3;
	farbe f = 40;
	reserved 500;
	optional bytes bild = 6;
	repeated artikel teile = 5;
	unbekannt u = 8;
	bool da=10;int64 preis=11;
}
call hole(frage) returns (artikel);
message frage { }
enum farbe { rot = 4294967296; rot = 1; }
call lege(artikel) returns(frage);
enum leer {}`

// P6.1: all of it in one text, in the order in which it stands.
func TestWhole(t *testing.T) {
	item := api.Message{
		Name: "artikel",
		Fields: []api.Field{
			{Name: "nummer", Tag: 1, Label: api.One, Type: api.Type{Kind: api.Int32}},
			{Name: "name", Tag: 2, Label: api.Optional, Type: api.Type{Kind: api.Text}},
			{Name: "größen", Tag: 3, Label: api.Repeated, Type: api.Type{Kind: api.Enum, Name: "größe"}},
			{Name: "f", Tag: 40, Label: api.One, Type: api.Type{Kind: api.Enum, Name: "farbe"}},
			{Name: "bild", Tag: 6, Label: api.Optional, Type: api.Type{Kind: api.Bytes}},
			{Name: "teile", Tag: 5, Label: api.Repeated, Type: api.Type{Kind: api.Msg, Name: "artikel"}},
			{Name: "u", Tag: 8, Label: api.One, Type: api.Type{Kind: api.Msg, Name: "unbekannt"}},
			{Name: "da", Tag: 10, Label: api.One, Type: api.Type{Kind: api.Bool}},
			{Name: "preis", Tag: 11, Label: api.One, Type: api.Type{Kind: api.Int64}},
		},
		Reserved: []int{9, 4, 17, 500},
	}
	is(t, whole, api.Schema{
		Name:     "laden",
		Messages: []api.Message{item, {Name: "frage"}},
		Enums: []api.Enumeration{
			{Name: "größe", Values: []api.Named{{Name: "klein"}, {Name: "groß", N: 7}}},
			{Name: "farbe", Values: []api.Named{{Name: "rot", N: 1 << 32}, {Name: "rot", N: 1}}},
			{Name: "leer"},
		},
		Methods: []api.Method{{Name: "hole", In: "frage", Out: "artikel"}, {Name: "lege", In: "artikel", Out: "frage"}},
	})
}

// P6.1: what may have nothing in it.
func TestNothingInside(t *testing.T) {
	is(t, "schema a;", api.Schema{Name: "a"})
	is(t, " \t\r\n// schema b;\nschema//\na\n;// message m {}", api.Schema{Name: "a"})
	is(t, "schema a; message m {}", fields())
	is(t, "schema a;enum e{}", api.Schema{Name: "a", Enums: []api.Enumeration{{Name: "e"}}})
	is(t, "schema a; call f(m) returns (n);", api.Schema{Name: "a", Methods: []api.Method{{Name: "f", In: "m", Out: "n"}}})
	is(t, "schema a; message m { reserved 3; }", api.Schema{Name: "a", Messages: []api.Message{{Name: "m", Reserved: []int{3}}}})
}

// P6.1: each label with each type.
func TestLabelsAndTypes(t *testing.T) {
	labels := map[string]int{"": api.One, "optional ": api.Optional, "repeated ": api.Repeated}
	types := map[string]int{"int32": api.Int32, "int64": api.Int64, "bool": api.Bool, "text": api.Text, "bytes": api.Bytes}
	for l, label := range labels {
		for word, kind := range types {
			is(t, "schema a; message m { "+l+word+" x = 1; }", fields(field(label, kind)))
		}
		f := field(label, api.Msg)
		f.Type.Name = "n"
		is(t, "schema a; message m { "+l+"n x = 1; }", fields(f))
		f.Type.Kind = api.Enum
		want := fields(f)
		want.Enums = []api.Enumeration{{Name: "n"}}
		is(t, "schema a; message m { "+l+"n x = 1; } enum n { }", want)
		is(t, "schema a; enum n { } message m { "+l+"n x = 1; }", want)
	}
}

// kindOf is the kind of the type n in the message m of a text.
func kindOf(t *testing.T, s string) int {
	t.Helper()
	a, at, e := idl.Parse(s)
	if e != api.OK {
		t.Fatalf("Parse(%s): %d, %v", short(s), at, e)
	}
	for _, m := range a.Messages {
		for _, f := range m.Fields {
			if f.Type.Name == "n" {
				return f.Type.Kind
			}
		}
	}
	t.Fatalf("Parse(%s): no field of type n", short(s))
	return 0
}

// P6.1: a type by name is an enumeration's, if the text has one of that name,
// wherever it stands, and whatever else has the name.
func TestTypesByName(t *testing.T) {
	const m = "message m { n x = 1; } "
	for s, want := range map[string]int{
		m:                                     api.Msg,
		"enum n {} " + m:                      api.Enum,
		m + "enum n {}":                       api.Enum,
		m + "message n {}":                    api.Msg,
		"message n {} " + m:                   api.Msg,
		"message n {} enum n {} " + m:         api.Enum,
		"enum n {} message n {} " + m:         api.Enum,
		m + "message n {} enum n {}":          api.Enum,
		m + "enum n {} message n {}":          api.Enum,
		m + "enum n {} enum o {} enum n {}":   api.Enum,
		m + "enum o { n = 0; }":               api.Msg,
		m + "enum nn {} enum N {}":            api.Msg,
		m + "call n(n) returns (n);":          api.Msg,
		"message m { int32 n = 1; n n = 2; }": api.Msg,
		m + "// enum n {}":                    api.Msg,
	} {
		if got := kindOf(t, "schema n; "+s); got != want {
			t.Errorf("%q: n is of kind %d, want %d", s, got, want)
		}
	}
}

// P6.1: a method's names and a schema's are as they stand, an enumeration's
// name or not; types of words have no name.
func TestEnumsElsewhere(t *testing.T) {
	is(t, "schema e; enum e { e = 1; } message e { e e = 1; int32 e = 2; } call e(e) returns (e);", api.Schema{
		Name: "e",
		Messages: []api.Message{{Name: "e", Fields: []api.Field{
			{Name: "e", Tag: 1, Label: api.One, Type: api.Type{Kind: api.Enum, Name: "e"}},
			{Name: "e", Tag: 2, Label: api.One, Type: api.Type{Kind: api.Int32}},
		}}},
		Enums:   []api.Enumeration{{Name: "e", Values: []api.Named{{Name: "e", N: 1}}}},
		Methods: []api.Method{{Name: "e", In: "e", Out: "e"}},
	})
}

// P6.1: several declarations of one name are all there, in their order; so are
// numbers that are there twice. Whether they may be is not asked here.
func TestTwice(t *testing.T) {
	is(t, `schema a;
message m { int32 x = 1; bool x = 1; reserved 1, 1; reserved 1; }
enum e { a = 0; a = 0; }
message m { }
enum e { b = 1; }
call f(m) returns (m); call f(e) returns (f);
message m { text x = 0; }`, api.Schema{
		Name: "a",
		Messages: []api.Message{
			{Name: "m", Fields: []api.Field{field(api.One, api.Int32), field(api.One, api.Bool)}, Reserved: []int{1, 1, 1}},
			{Name: "m"},
			{Name: "m", Fields: []api.Field{{Name: "x", Label: api.One, Type: api.Type{Kind: api.Text}}}},
		},
		Enums: []api.Enumeration{
			{Name: "e", Values: []api.Named{{Name: "a"}, {Name: "a"}}},
			{Name: "e", Values: []api.Named{{Name: "b", N: 1}}},
		},
		Methods: []api.Method{{Name: "f", In: "m", Out: "m"}, {Name: "f", In: "e", Out: "f"}},
	})
}

// P6.1: numbers from 0 to ten digits, in each place where one stands.
func TestNumbers(t *testing.T) {
	for text, n := range map[string]int{"0": 0, "1": 1, "9": 9, "10": 10, "500": 500, "501": 501, "2147483648": 1 << 31, "9999999999": 9999999999} {
		f := field(api.One, api.Int32)
		f.Tag = n
		is(t, "schema a; message m { int32 x = "+text+"; }", fields(f))
		is(t, "schema a; message m { reserved "+text+"; }", api.Schema{Name: "a", Messages: []api.Message{{Name: "m", Reserved: []int{n}}}})
		is(t, "schema a; message m { reserved 1,"+text+"; }", api.Schema{Name: "a", Messages: []api.Message{{Name: "m", Reserved: []int{1, n}}}})
		is(t, "schema a; enum e { x = "+text+"; }", api.Schema{Name: "a", Enums: []api.Enumeration{{Name: "e", Values: []api.Named{{Name: "x", N: n}}}}})
	}
	for _, text := range []string{"00", "01", "007", "0123456789", "00000000001", "10000000000", "12345678901", strings.Repeat("9", 40), "x", "int32", "=", ";", ",", "größe"} {
		wrongAt(t, "schema a; message m { int32 x = |"+text+"; }")
		wrongAt(t, "schema a; message m { reserved |"+text+"; }")
		wrongAt(t, "schema a; message m { reserved 1, |"+text+"; }")
		wrongAt(t, "schema a; enum e { x = |"+text+"; }")
	}
}

// nameTexts are a text for each place where a name stands, a bar in its place.
var nameTexts = []string{
	"schema |;", "schema a; message | { }", "schema a; message m { | x = 1; }",
	"schema a; message m { optional | x = 1; }", "schema a; message m { int32 | = 1; }",
	"schema a; message m { repeated n | = 1; }", "schema a; enum | { }", "schema a; enum e { | = 1; }",
	"schema a; enum e { x = 0; | = 1; }", "schema a; call |(m) returns (n);", "schema a; call f(|) returns (n);",
	"schema a; call f(m) returns (|);",
}

// P6.1: names of one to MaxName runes stand in each of their places, longer
// ones and words that are keys don't.
func TestNames(t *testing.T) {
	good := []string{"a", "_", "ω", "Text", "INT32", "int", "int33", "texts", "_text", "schemas", "bool_", "a1", "größe",
		strings.Repeat("x", api.MaxName), strings.Repeat("ß", api.MaxName), "a" + strings.Repeat("0", api.MaxName-1)}
	wrong := []string{strings.Repeat("x", api.MaxName+1), strings.Repeat("ß", api.MaxName+1), "a" + strings.Repeat("0", api.MaxName), strings.Repeat("y", 1000),
		"0", "1a", ";", "(", "="}
	for _, text := range nameTexts {
		ahead, behind, _ := strings.Cut(text, "|")
		for _, name := range good {
			s := ahead + name + behind
			want := read(s)
			if want.e != api.OK || !strings.Contains(fmt.Sprint(want.s), name) {
				t.Fatalf("%q is to be a schema: %v", s, want)
			}
			same(t, s, want)
		}
		for _, name := range wrong {
			wrongAt(t, ahead+"|"+name+behind)
		}
		for _, key := range keys {
			same(t, ahead+key+behind, read(ahead+key+behind))
		}
	}
}

// P6.1: keys in the place of a name, each written out.
func TestKeys(t *testing.T) {
	for _, key := range keys {
		wrongAt(t, "schema |"+key+"; message m { }")
		wrongAt(t, "schema a; message |"+key+" { }")
		wrongAt(t, "schema a; enum |"+key+" { }")
		wrongAt(t, "schema a; enum e { |"+key+" = 1; }")
		wrongAt(t, "schema a; message m { int32 |"+key+" = 1; }")
		wrongAt(t, "schema a; call |"+key+"(m) returns (m);")
		wrongAt(t, "schema a; call f(|"+key+") returns (m);")
		wrongAt(t, "schema a; call f(m) returns (|"+key+");")
	}
	for _, key := range []string{"schema", "message", "enum", "call", "returns", "optional", "repeated", "reserved"} {
		wrongAt(t, "schema a; message m { optional |"+key+" x = 1; }")
		wrongAt(t, "schema a; message m { repeated |"+key+" x = 1; }")
	}
	for _, key := range []string{"schema", "returns", "reserved", "optional", "repeated", "int32", "int64", "bool", "text", "bytes", "a"} {
		wrongAt(t, "schema a; |"+key+" m { }")
	}
	for _, key := range []string{"schema", "message", "enum", "call", "returns"} {
		wrongAt(t, "schema a; message m { |"+key+" x = 1; }")
	}
	wrongAt(t, "|message m { }")
	wrongAt(t, "|a;")
	wrongAt(t, "schema a; |schema b;")
	wrongAt(t, "schema a; message m { |message n { } }")
	wrongAt(t, "schema a; message m { reserved |reserved 1; }")
	wrongAt(t, "schema a; message m { reserved 1, |}")
	wrongAt(t, "schema a; message m { reserved 1 |2; }")
	wrongAt(t, "schema a; message m { reserved 1; |; }")
	wrongAt(t, "schema a; message m { reserved |; }")
	wrongAt(t, "schema a; message m { reserved |}")
	wrongAt(t, "schema a; message m { int32 x |, y = 1; }")
	wrongAt(t, "schema a; message m { int32 x = 1|, 2; }")
	wrongAt(t, "schema a; message m { int32 x = 1 |}")
	wrongAt(t, "schema a; message m { optional |}")
	wrongAt(t, "schema a; message m { }|;")
	wrongAt(t, "schema a; enum e { |optional x = 1; }")
	wrongAt(t, "schema a; enum e { |reserved 1; }")
	wrongAt(t, "schema a; enum e { x = 1|, y = 2; }")
	wrongAt(t, "schema a; call f|{m} returns (m);")
	wrongAt(t, "schema a; call f(|) returns (m);")
	wrongAt(t, "schema a; call f(m|, n) returns (m);")
	wrongAt(t, "schema a; call f(m) |(m);")
	wrongAt(t, "schema a; call f(m) |Returns (m);")
	wrongAt(t, "schema a; call f(m) returns |m;")
	wrongAt(t, "schema a; call f(m) returns (m) |}")
}

// P6.1: no text, or none but blanks and comments: a token is lacking at its end.
func TestBlank(t *testing.T) {
	for _, s := range []string{"", " ", "\n", " \t\r\n", "//", "// schema a;", "// a\n", "  // \xff\xfe\n\t// b"} {
		refused(t, s, len(s), api.ErrSyntax)
	}
}

// P6.1: a text that ends behind each of its tokens: where one is lacking, the
// place is the text's end, blanks and comments too.
func TestCut(t *testing.T) {
	tokens, _, _ := lex.Tokens(whole)
	whole, cuts := []string{}, 0
	for _, k := range tokens {
		whole = append(whole, k.Text)
		s := joined(whole)
		if read(s).e != api.OK {
			cuts++
		}
		for _, behind := range []string{"", " ", "\n\n", "// }", " \t//\n "} {
			want := read(s + behind)
			if want.e != api.OK && want.at != len(s+behind) {
				t.Fatalf("%s is to be right up to its end: %v", short(s), want)
			}
			same(t, s+behind, want)
		}
	}
	if ends := 8; cuts != len(tokens)-ends {
		t.Fatalf("%d of %d cuts are no schema", cuts, len(tokens))
	}
	for _, s := range []string{"schema", "schema a", "schema a; message", "schema a; message m", "schema a; message m {",
		"schema a; message m { optional", "schema a; message m { int32", "schema a; message m { int32 x", "schema a; message m { int32 x =",
		"schema a; message m { int32 x = 1", "schema a; message m { int32 x = 1;", "schema a; message m { reserved", "schema a; message m { reserved 1",
		"schema a; message m { reserved 1,", "schema a; message m { reserved 1;", "schema a; enum", "schema a; enum e", "schema a; enum e {",
		"schema a; enum e { x", "schema a; enum e { x =", "schema a; enum e { x = 1", "schema a; enum e { x = 1;", "schema a; call", "schema a; call f",
		"schema a; call f(", "schema a; call f(m", "schema a; call f(m)", "schema a; call f(m) returns", "schema a; call f(m) returns (",
		"schema a; call f(m) returns (m", "schema a; call f(m) returns (m)"} {
		wrongAt(t, s+"|")
		wrongAt(t, s+" // ;\n|")
	}
}

// P6.1: behind tokens that lead to each place of the grammar, each token that
// there is: taken where it fits, else told, whatever stands behind.
func TestEveryTokenAtEveryPlace(t *testing.T) {
	others := []string{"{", "}", "(", ")", ";", "=", ",", "x", "n", "0", "7", "07", "10000000000", strings.Repeat("x", api.MaxName+1)}
	if n := len(paths()); n != 29 {
		t.Fatalf("%d places", n)
	}
	for place, ahead := range paths() {
		same(t, joined(ahead), read(joined(ahead)))
		for _, token := range slices.Concat(keys, others) {
			s := joined(append(slices.Clone(ahead), token))
			want := read(s)
			_, fits := follow(place, token)
			if !fits && (want.e != api.ErrSyntax || want.at != len(s)-len(token)) {
				t.Fatalf("%q: the table tells %v", s, want)
			}
			same(t, s, want)
			for _, behind := range slices.Concat(keys, others) {
				same(t, s+" "+behind, read(s+" "+behind))
			}
		}
	}
}

// P6.1: a token too much, one too few, one in another's place, at each place
// of a whole text.
func TestOneTokenOff(t *testing.T) {
	l, _, _ := lex.Tokens(whole)
	var tokens []string
	for _, k := range l {
		tokens = append(tokens, k.Text)
	}
	news := slices.Concat(keys, []string{"{", "}", "(", ")", ";", "=", ",", "x", "größe", "0", "007"})
	for i := range tokens {
		less := joined(slices.Delete(slices.Clone(tokens), i, i+1))
		same(t, less, read(less))
		for _, token := range news {
			more := joined(slices.Insert(slices.Clone(tokens), i, token))
			same(t, more, read(more))
			other := slices.Clone(tokens)
			other[i] = token
			same(t, joined(other), read(joined(other)))
		}
	}
	for _, token := range news {
		s := joined(append(slices.Clone(tokens), token))
		same(t, s, read(s))
	}
}

// P6.1: what lex's Tokens refuses is told by its place and error, be it ahead
// of a token that does not fit or behind it.
func TestTokensRefuses(t *testing.T) {
	refused(t, "\xff", 0, api.ErrText)
	refused(t, "-", 0, api.ErrSyntax)
	refused(t, "schema a; \xff", 10, api.ErrText)
	refused(t, "schema a; message m { int32 x = -1; }", 32, api.ErrSyntax)
	refused(t, "schema a; \xc3 b", 10, api.ErrText)
	refused(t, "schema a: b", 8, api.ErrSyntax)
	refused(t, "1 2 3 \xff", 6, api.ErrText)
	refused(t, "1 2 3 %", 6, api.ErrSyntax)
	refused(t, "\xed\xa0\x80 1 2 3", 0, api.ErrText)
	refused(t, "% 1 2 3", 0, api.ErrSyntax)
	refused(t, "schema schema ; . \xff", 16, api.ErrSyntax)
	refused(t, "schema schema ; \xff .", 16, api.ErrText)
	refused(t, "schema a; message m { / }", 22, api.ErrSyntax)
	refused(t, "schema a; \u05d0", 10, api.ErrSyntax)
	for at := range len(whole) + 1 {
		for _, bad := range []string{"\xff", "%", "schema \xff", "; ; %"} {
			s := whole[:at] + bad + whole[at:]
			_, place, e := lex.Tokens(s)
			if want := read(s); e != api.OK && (want.at != place || want.e != e) {
				t.Fatalf("%s: the table tells %v", short(s), want)
			}
			same(t, s, read(s))
		}
	}
}

// P6.1: bytes that are no runes say nothing in a comment, here too.
func TestComments(t *testing.T) {
	is(t, "schema a; // \xff % }\nmessage m { // {\n } // \xc3", fields())
	refused(t, "schema a; // \xff\n b", 16, api.ErrSyntax)
}

// P6.1: texts of MaxSource bytes are read, those of more are not, be they
// schemas or not.
func TestBig(t *testing.T) {
	const head = "schema a;"
	fill := func(s string, n int) string { return s + strings.Repeat(" ", n-len(s)) }
	is(t, fill(head, api.MaxSource), api.Schema{Name: "a"})
	refused(t, fill(head, api.MaxSource+1), 0, api.ErrBig)
	refused(t, fill("schema a", api.MaxSource), api.MaxSource, api.ErrSyntax)
	refused(t, fill("; \xff", api.MaxSource+1), 0, api.ErrBig)
	refused(t, fill("; \xff", api.MaxSource), 2, api.ErrText)
	refused(t, strings.Repeat("\xff", 10*api.MaxSource), 0, api.ErrBig)
	refused(t, head+"//"+strings.Repeat("x", api.MaxSource), 0, api.ErrBig)
}

// P6.1: as much of each thing as a text has room for; limits on how many there
// may be are not asked here.
func TestMany(t *testing.T) {
	for piece, ends := range map[string][2]string{
		"message m{}":           {"schema a;", ""},
		"enum e{}":              {"schema a;", ""},
		"call f(m)returns(n);":  {"schema a;", ""},
		"e x=1;":                {"schema a;message m{", "}enum e{}"},
		"reserved 1,2;":         {"schema a;message m{", "}"},
		"1,":                    {"schema a;message m{reserved ", "1;}"},
		"x=1;":                  {"schema a;enum e{", "}"},
		"enum e{}message m{e":   {"schema a;", ""},
		"message m{e x=1;}":     {"schema a;", "enum e{}"},
		"message m{optional":    {"schema a;", ""},
		"{":                     {"schema a;message m", ""},
		"message m{reserved 0,": {"schema a;", ""},
	} {
		n := (api.MaxSource - len(ends[0]) - len(ends[1])) / len(piece)
		s := ends[0] + strings.Repeat(piece, n) + ends[1]
		same(t, s, read(s))
		same(t, ends[0]+strings.Repeat(piece, 100)+ends[1]+" ;", read(ends[0]+strings.Repeat(piece, 100)+ends[1]+" ;"))
	}
}

// R2: with an error the schema is the zero one, however much was read.
func TestZero(t *testing.T) {
	for _, s := range []string{whole + ";", whole + "\xff", whole + "%", whole + "message", "schema a", "x", whole + strings.Repeat(" ", api.MaxSource)} {
		a, _, e := idl.Parse(s)
		if e == api.OK || a.Name != "" || len(a.Messages) != 0 || len(a.Enums) != 0 || len(a.Methods) != 0 {
			t.Errorf("%s: %v, %v", short(s), a, e)
		}
	}
}

// span is the memory of a list, spare room too.
type span struct{ from, to uintptr }

func spanOf[T any](l []T) span {
	var x T
	from := uintptr(unsafe.Pointer(unsafe.SliceData(l)))
	return span{from, from + uintptr(cap(l))*unsafe.Sizeof(x)}
}

// spans are those of all lists of a schema that have any room.
func spans(s api.Schema) []span {
	all := []span{spanOf(s.Messages), spanOf(s.Enums), spanOf(s.Methods)}
	for _, m := range s.Messages {
		all = append(all, spanOf(m.Fields), spanOf(m.Reserved))
	}
	for _, e := range s.Enums {
		all = append(all, spanOf(e.Values))
	}
	return slices.DeleteFunc(all, func(x span) bool { return x.from == x.to })
}

// R3, R4: no two lists of one answer share memory, spare room too, nor those of
// two answers for one text.
func TestNewMemory(t *testing.T) {
	const text = `schema a;
message m { int32 a = 1; int32 b = 2; int32 c = 3; reserved 1, 2, 3; reserved 4, 5; }
message n { int32 d = 4; int32 e = 5; int32 f = 6; reserved 6, 7, 8; } message o { } message p { reserved 1; }
enum e { a = 1; b = 2; c = 3; } enum f { d = 4; e = 5; f = 6; } enum g { }
call f(m) returns (n); call g(n) returns (m); call h(n) returns (n);`
	a, _, _ := idl.Parse(text)
	b, _, _ := idl.Parse(text)
	all := append(spans(a), spans(b)...)
	if len(all) != 2*10 {
		t.Fatalf("%d lists", len(all))
	}
	for i, x := range all {
		for j, y := range all[:i] {
			if x.from < y.to && y.from < x.to {
				t.Errorf("lists %d and %d share memory", i, j)
			}
		}
	}
	same(t, text, read(text))
}

// writer writes schemas as texts, with blanks and comments as they come.
type writer struct {
	r *rand.Rand
	b strings.Builder
}

// put puts tokens behind, so that no two of them become one.
func (w *writer) put(tokens ...string) {
	gaps := []string{" ", "\n", "\t", " \r\n ", "// a; }\n", " //\xff\n", "//\n//\n"}
	for _, token := range tokens {
		if !strings.Contains("{}();=,", token) || w.r.Intn(2) == 0 {
			w.b.WriteString(gaps[w.r.Intn(len(gaps))])
		}
		w.b.WriteString(token)
	}
}

func (w *writer) field(f api.Field) {
	words := map[int]string{api.Int32: "int32", api.Int64: "int64", api.Bool: "bool", api.Text: "text", api.Bytes: "bytes", api.Msg: f.Type.Name, api.Enum: f.Type.Name}
	switch f.Label {
	case api.Optional:
		w.put("optional")
	case api.Repeated:
		w.put("repeated")
	}
	w.put(words[f.Type.Kind], f.Name, "=", strconv.Itoa(f.Tag), ";")
}

// reserved writes some of the numbers in one list, and is how many.
func (w *writer) reserved(l []int) int {
	n := 1 + w.r.Intn(len(l))
	w.put("reserved", strconv.Itoa(l[0]))
	for _, k := range l[1:n] {
		w.put(",", strconv.Itoa(k))
	}
	w.put(";")
	return n
}

func (w *writer) message(m api.Message) {
	w.put("message", m.Name, "{")
	for len(m.Fields)+len(m.Reserved) > 0 {
		if k := w.r.Intn(len(m.Fields) + len(m.Reserved)); k < len(m.Fields) {
			w.field(m.Fields[0])
			m.Fields = m.Fields[1:]
		} else {
			m.Reserved = m.Reserved[w.reserved(m.Reserved):]
		}
	}
	w.put("}")
}

func (w *writer) enum(e api.Enumeration) {
	w.put("enum", e.Name, "{")
	for _, v := range e.Values {
		w.put(v.Name, "=", strconv.Itoa(v.N), ";")
	}
	w.put("}")
}

// schema writes the declarations in any order that keeps that of each kind.
func (w *writer) schema(s api.Schema) {
	w.put("schema", s.Name, ";")
	for len(s.Messages)+len(s.Enums)+len(s.Methods) > 0 {
		switch k := w.r.Intn(3); {
		case k == 0 && len(s.Messages) > 0:
			w.message(s.Messages[0])
			s.Messages = s.Messages[1:]
		case k == 1 && len(s.Enums) > 0:
			w.enum(s.Enums[0])
			s.Enums = s.Enums[1:]
		case k == 2 && len(s.Methods) > 0:
			m := s.Methods[0]
			w.put("call", m.Name, "(", m.In, ")", "returns", "(", m.Out, ")", ";")
			s.Methods = s.Methods[1:]
		}
	}
}

func someName(r *rand.Rand) string {
	names := []string{"a", "b", "m", "n", "e", "größe", "_1", "Ωμ", "schemata", "Text", strings.Repeat("ā", api.MaxName)}
	return names[r.Intn(len(names))]
}

func someNumber(r *rand.Rand) int { return r.Intn([]int{2, 10, 600, 9999999999}[r.Intn(4)]) }

// some is a schema, of which many may not be.
func some(r *rand.Rand) api.Schema {
	s := api.Schema{Name: someName(r)}
	for range r.Intn(4) {
		m := api.Message{Name: someName(r)}
		for range r.Intn(6) {
			f := api.Field{Name: someName(r), Tag: someNumber(r), Label: 1 + r.Intn(3), Type: api.Type{Kind: []int{1, 2, 3, 4, 5, 7, 7}[r.Intn(7)]}}
			if f.Type.Kind == api.Msg {
				f.Type.Name = someName(r)
			}
			m.Fields = append(m.Fields, f)
		}
		for range r.Intn(6) {
			m.Reserved = append(m.Reserved, someNumber(r))
		}
		s.Messages = append(s.Messages, m)
	}
	for range r.Intn(4) {
		e := api.Enumeration{Name: someName(r)}
		for range r.Intn(4) {
			e.Values = append(e.Values, api.Named{Name: someName(r), N: someNumber(r)})
		}
		s.Enums = append(s.Enums, e)
	}
	for range r.Intn(4) {
		s.Methods = append(s.Methods, api.Method{Name: someName(r), In: someName(r), Out: someName(r)})
	}
	kinds(s)
	return s
}

// P6.1: schemas that are written and read again are what they were; cut and
// spoilt they are what the table tells.
func TestRandom(t *testing.T) {
	r := rand.New(rand.NewSource(6))
	for range 3000 {
		w := writer{r: r}
		s := some(r)
		w.schema(s)
		text := w.b.String()
		is(t, text, s)
		cut := text[:r.Intn(len(text)+1)]
		same(t, cut, read(cut))
		spoilt := []byte(text)
		spoilt[r.Intn(len(spoilt))] = "{}();=,a0 \n/\xff\xc3"[r.Intn(14)]
		same(t, string(spoilt), read(string(spoilt)))
	}
}
