package adapt_test

import (
	"fmt"
	"slices"
	"strings"
	"testing"

	"concordat/adapt"
	"concordat/api"
	"concordat/check"
)

// P15.1: the chapter's example: from a schema to itself, a StepKeep for each number.
func TestExample(t *testing.T) {
	const s = "schema s; message m { int32 a = 1; optional int32 b = 2; repeated int64 c = 3; int64 d = 4; }"
	texts(t, s, s, part(keep(1), keep(2), keep(3), keep(4)))
}

const elder = `schema shop;
enum colour { none = 0; red = 1; }
message ask { text what = 1; optional int32 many = 2; repeated colour in = 3; reserved 4, 500; }
message answer { repeated ware wares = 1; bool more = 2; ware best = 9; optional ask again = 8; }
message ware { text name = 1; int32 price = 2; bytes picture = 3; colour c = 4; optional ware part = 5; ask how = 6; }
call find(ask) returns (answer);`

const later = `schema other;
message thing { ask how = 6; bytes image = 3; optional thing piece = 5; text title = 1; color col = 4; int64 cost = 2; repeated text note = 77; }
enum color { green = 3; none = 0; }
message reply { optional request again = 8; bool more = 2; thing best = 9; repeated thing wares = 1; }
message request { repeated color colours = 3; optional int64 count = 2; text what = 1; int32 page = 5; reserved 500; }
message ask { repeated int32 x = 3; int64 y = 1; }`

// P15.1: two schemas that have much in common, there and back.
func TestThereAndBack(t *testing.T) {
	a, b := schema(t, elder), schema(t, later)
	makes(t, a, b, "answer", "reply", program(
		part(into(1, 1), keep(2), into(8, 2), intoOne(9, 1)),
		part(keep(1), keep(2), keep(3), keep(4), into(5, 1), intoOne(6, 3)),
		part(keep(1), keep(2), keep(3)),
		nil,
	))
	makes(t, b, a, "reply", "answer", program(
		part(into(1, 1), keep(2), into(8, 2), intoOne(9, 1)),
		part(keep(1), clamp(2), keep(3), keep(4), into(5, 1), intoOne(6, 3)),
		part(keep(1), clamp(2), keep(3)),
		nil,
	))
	makes(t, a, b, "ask", "request", program(part(keep(1), keep(2), keep(3))))
	makes(t, a, b, "ask", "ask", program(nil))
	makes(t, a, b, "ware", "reply", program(nil))
	makes(t, a, a, "answer", "answer", program(
		part(into(1, 1), keep(2), into(8, 2), intoOne(9, 1)),
		part(keep(1), keep(2), keep(3), keep(4), into(5, 1), intoOne(6, 2)),
		part(keep(1), keep(2), keep(3)),
	))
	for _, x := range a.Messages {
		for _, y := range b.Messages {
			is(t, a, b, x.Name, y.Name)
			is(t, b, a, y.Name, x.Name)
		}
	}
}

// P15.1: a schema that check does not say OK of, as from, as to, as both; that is told ahead of a message that is not there.
func TestRefusesSchemas(t *testing.T) {
	good := schema(t, elder)
	for _, turn := range []func(s *api.Schema){
		func(s *api.Schema) { *s = api.Schema{} },
		func(s *api.Schema) { s.Name = "" },
		func(s *api.Schema) { s.Messages = nil },
		func(s *api.Schema) { s.Messages[2].Name = "ask" },
		func(s *api.Schema) { s.Messages[0].Fields[1].Tag = 1 },
		func(s *api.Schema) { s.Messages[0].Fields[1].Tag = 501 },
		func(s *api.Schema) { s.Messages[0].Fields[0].Label = 0 },
		func(s *api.Schema) { s.Messages[2].Fields[0].Type.Kind = 8 },
		func(s *api.Schema) { s.Messages[1].Fields[0].Type.Name = "x" },
		func(s *api.Schema) { s.Messages[0].Reserved[0] = 1 },
		func(s *api.Schema) { s.Enums[0].Values[0].N = 2 },
		func(s *api.Schema) { s.Methods[0].Out = "colour" },
		func(s *api.Schema) { s.Methods = make([]api.Method, 7) },
	} {
		bad := deep(good)
		turn(&bad)
		if check.Check(bad) == api.OK {
			t.Fatal("it may be")
		}
		for _, name := range []string{"ask", "ware", "none", ""} {
			refuses(t, good, bad, "ask", name, api.ErrArg)
			refuses(t, bad, good, name, "ask", api.ErrArg)
			refuses(t, bad, bad, name, name, api.ErrArg)
			refuses(t, good, bad, name, "none", api.ErrArg)
			refuses(t, bad, good, "none", name, api.ErrArg)
		}
	}
}

// P15.1: a message that from has not, that to has not, neither; a name that is none, or something else's.
func TestRefusesNames(t *testing.T) {
	a, b := schema(t, elder), schema(t, later)
	for _, name := range []string{"none", "", "Ask", "ask ", "as", "asks", "colour", "color", "find", "shop", "what", "1", "\xff", "schema", strings.Repeat("a", 21)} {
		refuses(t, a, b, name, "ask", api.ErrNone)
		refuses(t, a, b, "ask", name, api.ErrNone)
		refuses(t, a, b, name, name, api.ErrNone)
		refuses(t, a, a, name, name, api.ErrNone)
	}
	// Each is asked of its own schema.
	refuses(t, a, b, "request", "request", api.ErrNone)
	refuses(t, a, b, "ware", "ware", api.ErrNone)
	refuses(t, a, b, "reply", "answer", api.ErrNone)
	makes(t, a, b, "ware", "request", program(part(keep(1))))
}

// P15.1: messages without a field, one, the other one, both.
func TestNoFields(t *testing.T) {
	const none, one = "schema s; message m { }", "schema s; message m { int32 a = 1; }"
	texts(t, none, none, nil)
	texts(t, none, one, nil)
	texts(t, one, none, nil)
	texts(t, one, one, part(keep(1)))
	texts(t, "schema s; message m { m a = 1; n b = 2; } message n { }", "schema s; message m { n a = 1; n b = 2; } message n { }", part(intoOne(1, 1), intoOne(2, 2)), nil, nil)
}

// field is a schema's text of a message m with one field.
func field(label, kind string, tag int) string {
	return fmt.Sprintf("schema s; message m { %s %s a = %d; } message n { int32 a = 1; } message o { } enum e { x = 0; y = 1; } enum f { z = 5; x = 0; }", label, kind, tag)
}

var labels = []string{"", "optional", "repeated"}

// P15.1: a tag that one of both alone has; the least and the greatest tag.
func TestTags(t *testing.T) {
	for _, label := range labels {
		for _, a := range []int{1, 2, 250, 499, 500} {
			for _, b := range []int{1, 2, 250, 499, 500} {
				var want []api.Step
				if a == b {
					want = part(keep(a))
				}
				texts(t, field(label, "text", a), field(label, "text", b), want)
			}
		}
	}
	texts(t, "schema s; message m { int32 a = 1; int32 b = 3; int32 c = 500; }", "schema s; message m { int32 a = 2; int32 b = 3; int32 c = 4; }", part(keep(3)))
	texts(t, "schema s; message m { int32 a = 1; int32 b = 3; int32 c = 500; }", "schema s; message m { int32 a = 500; int32 b = 1; }", part(keep(1), keep(500)))
}

// P15.1: by rising tags, in whatever order the fields stand, and whatever their names are.
func TestOrderOfSteps(t *testing.T) {
	texts(t, "schema s; message m { int32 a = 9; int64 b = 7; text c = 500; bool d = 1; bytes e = 8; }", "schema s; message m { bytes e = 8; int32 b = 7; int64 a = 9; bool d = 1; text c = 500; }", part(keep(1), clamp(7), keep(8), keep(9), keep(500)))
	texts(t, "schema s; message m { int32 a = 2; int32 b = 1; }", "schema s; message m { int32 a = 1; text b = 2; }", part(keep(1)))
}

// P15.1: of one tag, each two Labels.
func TestLabels(t *testing.T) {
	for i, a := range labels {
		for j, b := range labels {
			for _, kind := range []string{"int32", "int64", "bool", "text", "bytes", "e", "o", "m"} {
				p, _ := is(t, schema(t, field(a, kind, 5)), schema(t, field(b, kind, 5)), "m", "m")
				if (len(p.Parts[0]) == 1) != (i == j) || len(p.Parts[0]) > 1 {
					t.Fatal(a, b, kind, p)
				}
			}
		}
	}
	texts(t, field("", "int64", 5), field("optional", "int32", 5), nil)
	texts(t, field("repeated", "int32", 5), field("optional", "int64", 5), nil)
	texts(t, field("", "n", 5), field("optional", "n", 5), nil)
	texts(t, field("optional", "n", 5), field("repeated", "n", 5), nil)
}

// P15.1: each two Kinds, both ways, at each Label.
func TestKinds(t *testing.T) {
	kinds := []string{"int32", "int64", "bool", "text", "bytes", "e", "n"}
	for _, label := range labels {
		for i, a := range kinds {
			for j, b := range kinds {
				p, _ := is(t, schema(t, field(label, a, 5)), schema(t, field(label, b, 5)), "m", "m")
				want := 0
				switch {
				case i == 6 && j == 6:
					want = 3
					if label == "" {
						want = 4
					}
				case i == j, i == 0 && j == 1:
					want = 1
				case i == 1 && j == 0:
					want = 2
				}
				got := 0
				if len(p.Parts[0]) > 0 {
					got = p.Parts[0][0].Op
				}
				if got != want {
					t.Fatal(label, a, b, p)
				}
			}
		}
	}
	for _, label := range labels {
		texts(t, field(label, "int32", 5), field(label, "int64", 5), part(keep(5)))
		texts(t, field(label, "int64", 5), field(label, "int32", 5), part(clamp(5)))
	}
}

// P15.1: Enum and Enum, of other names and values: as they are.
func TestEnums(t *testing.T) {
	for _, label := range labels {
		texts(t, field(label, "e", 5), field(label, "f", 5), part(keep(5)))
		texts(t, field(label, "f", 5), field(label, "e", 5), part(keep(5)))
		texts(t, field(label, "e", 5), strings.Replace(field(label, "e", 5), "y = 1;", "y = 2147483647; w = 1;", 1), part(keep(5)))
		texts(t, field(label, "e", 5), field(label, "int32", 5), nil)
		texts(t, field(label, "int64", 5), field(label, "e", 5), nil)
		texts(t, field(label, "e", 5), field(label, "o", 5), nil)
	}
}

// P15.1: Msg One, Optional, Repeated, and Msg and another Kind.
func TestMessages(t *testing.T) {
	for i, label := range labels {
		op := []int{adapt.IntoOne, api.StepInto, api.StepInto}[i]
		texts(t, field(label, "n", 5), field(label, "n", 5), part(api.Step{Op: op, Tag: 5, Sub: 1}), part(keep(1)))
		texts(t, field(label, "n", 5), field(label, "o", 5), part(api.Step{Op: op, Tag: 5, Sub: 1}), nil)
		texts(t, field(label, "m", 5), field(label, "m", 5), part(api.Step{Op: op, Tag: 5}))
		texts(t, field(label, "m", 5), field(label, "n", 5), part(api.Step{Op: op, Tag: 5, Sub: 1}), nil)
		for _, kind := range []string{"int32", "int64", "bool", "text", "bytes", "e"} {
			texts(t, field(label, "n", 5), field(label, kind, 5), nil)
			texts(t, field(label, kind, 5), field(label, "n", 5), nil)
		}
	}
	if adapt.IntoOne != 4 {
		t.Fatal(adapt.IntoOne)
	}
}

// P15.1: tags that are reserved, on one side or on the other one: no field has them.
func TestReserved(t *testing.T) {
	const f, r, both = "schema s; message m { int32 a = 1; int32 b = 2; }", "schema s; message m { reserved 1; int32 b = 2; }", "schema s; message m { reserved 2, 3, 500; int32 a = 1; }"
	texts(t, f, r, part(keep(2)))
	texts(t, r, f, part(keep(2)))
	texts(t, r, r, part(keep(2)))
	texts(t, r, both, nil)
	texts(t, f, both, part(keep(1)))
}

// P15.1: a message that leads to itself, two that lead to each other, one met with two messages of to's.
func TestLoops(t *testing.T) {
	texts(t, "schema s; message m { optional m a = 1; }", "schema s; message m { optional m a = 1; }", part(into(1, 0)))
	const two = "schema s; message m { n a = 1; int32 b = 2; } message n { repeated m a = 7; text b = 2; }"
	texts(t, two, two, part(intoOne(1, 1), keep(2)), part(keep(2), into(7, 0)))
	// A loop of one that meets a loop of two: two parts; of two and three: six.
	texts(t, "schema s; message m { m a = 1; }", "schema s; message m { n a = 1; } message n { m a = 1; }", part(intoOne(1, 1)), part(intoOne(1, 0)))
	texts(t, "schema s; message m { n a = 1; } message n { m a = 1; }", "schema s; message m { n a = 1; } message n { o a = 1; } message o { m a = 1; }",
		part(intoOne(1, 1)), part(intoOne(1, 2)), part(intoOne(1, 3)), part(intoOne(1, 4)), part(intoOne(1, 5)), part(intoOne(1, 0)))
	// One message with two of to's, and two with one.
	texts(t, "schema s; message m { n a = 1; n b = 2; } message n { int64 x = 1; text y = 2; }", "schema s; message m { n a = 1; o b = 2; } message n { int32 x = 1; } message o { text y = 2; }",
		part(intoOne(1, 1), intoOne(2, 2)), part(clamp(1)), part(keep(2)))
	texts(t, "schema s; message m { n a = 1; o b = 2; } message n { int32 x = 1; } message o { text y = 2; }", "schema s; message m { n a = 1; n b = 2; } message n { int64 x = 1; text y = 2; }",
		part(intoOne(1, 1), intoOne(2, 2)), part(keep(1)), part(keep(2)))
	// The same name on the other side is another message.
	texts(t, "schema s; message m { n a = 1; m b = 2; } message n { }", "schema s; message m { m a = 1; n b = 2; } message n { }",
		part(intoOne(1, 1), intoOne(2, 2)), nil, nil)
}

// P15.1: a pair that is met twice: as a new part the first time, as one that is there from then on; in one message, and in two.
func TestMetTwice(t *testing.T) {
	texts(t, "schema s; message m { n a = 1; repeated n b = 2; optional n c = 3; } message n { }", "schema s; message m { n a = 1; repeated n b = 2; optional n c = 3; } message n { }",
		part(intoOne(1, 1), into(2, 1), into(3, 1)), nil)
	const s = "schema s; message m { o a = 1; n b = 2; } message n { o a = 1; m b = 2; n c = 3; } message o { n a = 5; o b = 6; }"
	texts(t, s, s, part(intoOne(1, 1), intoOne(2, 2)), part(intoOne(5, 2), intoOne(6, 1)), part(intoOne(1, 1), intoOne(2, 0), intoOne(3, 2)))
}

// P15.1: the parts stand in the order in which they come: all that one part meets ahead of what those meet, by tags, not by the order of fields or messages.
func TestOrderOfParts(t *testing.T) {
	const s = `schema s;
message d { } message c { d x = 1; f y = 2; } message e { } message f { }
message m { b y = 2; c z = 3; a x = 1; }
message b { e x = 4; } message a { d y = 9; b x = 3; }`
	texts(t, s, s,
		part(intoOne(1, 1), intoOne(2, 2), intoOne(3, 3)),
		part(intoOne(3, 2), intoOne(9, 4)), // a
		part(intoOne(4, 5)),                // b
		part(intoOne(1, 4), intoOne(2, 6)), // c
		nil, nil, nil)
	// Fields that have no step lead to no part.
	texts(t, s, strings.NewReplacer("a x = 1", "optional a x = 1", "d x = 1", "text x = 1").Replace(s),
		part(intoOne(2, 1), intoOne(3, 2)),
		part(intoOne(4, 3)),
		part(intoOne(2, 4)),
		nil, nil)
}

// P15.1 and P15.2: as many parts as there may be: each message of one schema with each of the other one.
func TestAllPairs(t *testing.T) {
	ring := func(fields string) api.Schema {
		text := "schema s;"
		for i := range 10 {
			text += fmt.Sprintf("message m%d { %s }", i, strings.NewReplacer("self", fmt.Sprint("m", i), "next", fmt.Sprint("m", (i+1)%10)).Replace(fields))
		}
		return schema(t, text)
	}
	from, to := ring("self a = 1; optional next b = 500;"), ring("next a = 1; optional self b = 500;")
	p, e := is(t, from, to, "m3", "m7")
	if e != api.OK || len(p.Parts) != 100 {
		t.Fatal(e, len(p.Parts))
	}
	if !slices.Equal(p.Parts[0], part(intoOne(1, 1), into(500, 2))) {
		t.Fatal(p.Parts[0])
	}
	for _, l := range p.Parts {
		if len(l) != 2 || l[0].Op != 4 || l[1].Op != 3 {
			t.Fatal(l)
		}
	}
	// One loop alone meets as many pairs as there are turns of it.
	if p, e = is(t, from, from, "m3", "m7"); e != api.OK || len(p.Parts) != 10 {
		t.Fatal(e, len(p.Parts))
	}
}

// P15.1: as many fields as there may be, each of a message; all in one part, and parts for each.
func TestFullMessages(t *testing.T) {
	text := func(step func(j int) int) string {
		s := "schema s;"
		for i := range 10 {
			s += fmt.Sprintf("message m%d {", i)
			for j := range 16 {
				s += fmt.Sprintf("repeated m%d x%d = %d;", (i+step(j))%10, j, 500-31*j)
			}
			s += "}"
		}
		return s
	}
	a, b := schema(t, text(func(j int) int { return j })), schema(t, text(func(j int) int { return j / 2 }))
	p, e := is(t, a, b, "m0", "m0")
	if e != api.OK || len(p.Parts) != 100 {
		t.Fatal(e, len(p.Parts))
	}
	for _, l := range p.Parts {
		if len(l) != 16 {
			t.Fatal(l)
		}
	}
}
