package adapt_test

import (
	"fmt"
	"math/rand"
	"reflect"
	"slices"
	"testing"

	"concordat/adapt"
	"concordat/api"
	"concordat/check"
)

func pick[T any](r *rand.Rand, l ...T) T { return l[r.Intn(len(l))] }

// small is a schema that may be, of few messages, tags and names, so that two of them often meet.
func small(r *rand.Rand) api.Schema {
	s := api.Schema{Name: "s"}
	messages := []string{"a", "b", "c", "d"}[:2+r.Intn(3)]
	for _, name := range messages {
		m := api.Message{Name: name}
		for _, tag := range r.Perm(4) {
			if r.Intn(16) == 0 {
				m.Reserved = append(m.Reserved, 500-tag*166)
				continue
			}
			f := api.Field{Name: fmt.Sprintf("x%d_%d", r.Intn(2), tag), Tag: 500 - tag*166, Label: pick(r, 1+tag%3, 1+tag%3, 1, 2, 3), Type: api.Type{Kind: 1 + r.Intn(2)}}
			switch n := r.Intn(8); {
			case n == 0:
				f.Type = api.Type{Kind: 3 + r.Intn(3)}
			case n == 1:
				f.Type = api.Type{Kind: api.Enum, Name: pick(r, "e", "f")}
			case tag < 3:
				f.Type = api.Type{Kind: api.Msg, Name: pick(r, messages...)}
			}
			m.Fields = append(m.Fields, f)
		}
		s.Messages = append(s.Messages, m)
	}
	for _, name := range []string{"e", "f"} {
		s.Enums = append(s.Enums, api.Enumeration{Name: name, Values: []api.Named{{Name: "zero"}, {Name: pick(r, "one", "two"), N: 1 + r.Intn(2)}}})
	}
	return s
}

// P15.1: schemas of any sort, held against the reference.
func TestAnySchemas(t *testing.T) {
	r := rand.New(rand.NewSource(1))
	parts, ops := map[int]int{}, map[int]int{}
	for range 20000 {
		from, to := small(r), small(r)
		p, e := is(t, from, to, pick(r, from.Messages...).Name, pick(r, "a", "a", "b", "c"))
		if e == api.OK {
			walk(t, from, to, p)
		}
		parts[len(p.Parts)]++
		for _, l := range p.Parts {
			for _, s := range l {
				ops[s.Op]++
			}
		}
	}
	if len(parts) < 10 || min(ops[1], ops[2], ops[3], ops[4]) < 1000 || len(ops) != 4 {
		t.Fatal(parts, ops)
	}
}

// walk ends the test, if a part of p is met for the first time behind one that stands behind it, or not at all.
func walk(t *testing.T, from, to api.Schema, p adapt.Program) {
	t.Helper()
	next := 1
	for i, l := range p.Parts {
		if i >= next {
			t.Fatalf("part %d is not met: %+v\n%s\n%s", i, p, short(from), short(to))
		}
		for _, s := range l {
			if s.Sub > next {
				t.Fatalf("part %d is met ahead of %d: %+v\n%s\n%s", s.Sub, next, p, short(from), short(to))
			}
			if s.Sub == next {
				next++
			}
		}
	}
	if next != len(p.Parts) {
		t.Fatalf("%d of %d are met", next, len(p.Parts))
	}
}

// P15.1: from a schema to itself each field has a step, and none is cut.
func TestToItself(t *testing.T) {
	r := rand.New(rand.NewSource(2))
	for range 3000 {
		s := small(r)
		for _, m := range s.Messages {
			p, e := is(t, s, s, m.Name, m.Name)
			if e != api.OK || len(p.Parts) > len(s.Messages) || len(p.Parts[0]) != len(m.Fields) {
				t.Fatal(e, p, short(s))
			}
			for _, l := range p.Parts {
				for _, x := range l {
					if x.Op == api.StepClamp {
						t.Fatal(p, short(s))
					}
				}
			}
		}
	}
}

// R1: schemas of any sort, such as may not be, too; nothing panics.
func TestSpoiltSchemas(t *testing.T) {
	r := rand.New(rand.NewSource(3))
	count := map[api.Errno]int{}
	for range 20000 {
		from, to := small(r), small(r)
		for range r.Intn(3) {
			spoil(r, pick(r, &from, &to))
		}
		_, e := is(t, from, to, pick(r, "a", "b", ""), pick(r, "a", "b", "e"))
		count[e]++
	}
	if len(count) != 3 || min(count[api.OK], count[api.ErrArg], count[api.ErrNone]) < 1000 {
		t.Fatal(count)
	}
}

// spoil turns one part of s, so that it often may not be.
func spoil(r *rand.Rand, s *api.Schema) {
	m := &s.Messages[r.Intn(len(s.Messages))]
	x := &s.Enums[r.Intn(len(s.Enums))]
	names := []*string{&s.Name, &m.Name, &x.Name, &x.Values[0].Name}
	numbers := []*int{&x.Values[0].N, &x.Values[1].N}
	for i := range m.Fields {
		names = append(names, &m.Fields[i].Name, &m.Fields[i].Type.Name)
		numbers = append(numbers, &m.Fields[i].Tag, &m.Fields[i].Label, &m.Fields[i].Type.Kind)
	}
	for i := range m.Reserved {
		numbers = append(numbers, &m.Reserved[i])
	}
	if r.Intn(2) == 0 {
		*pick(r, names...) = pick(r, "", "a", "b", "e", "f", "zero", "schema", "\xff")
		return
	}
	*pick(r, numbers...) += pick(r, -1, 1, 1<<32, 500)
}

// R3: what is answered is new memory, spare room too, and its lists share none: one that is written over turns neither the others nor what a later call answers.
func TestNewMemory(t *testing.T) {
	from, to := schema(t, elder), schema(t, later)
	x, y := deep(from), deep(to)
	want, _ := reference(from, to, "answer", "reply")
	for i := range want.Parts {
		p := makes(t, from, to, "answer", "reply", want)
		q := copied(p)
		for j := range p.Parts[i] {
			p.Parts[i][j] = api.Step{Op: -1, Tag: -1, Sub: -1}
		}
		for j := range p.Parts {
			if j != i && !reflect.DeepEqual(p.Parts[j], q.Parts[j]) {
				t.Fatalf("part %d turned part %d", i, j)
			}
		}
	}
	p, q := makes(t, from, to, "answer", "reply", want), makes(t, from, to, "answer", "reply", want)
	p.Parts = append(p.Parts, nil)[:cap(p.Parts)]
	for i, l := range p.Parts {
		l = append(l, keep(77))
		for j := range l[:cap(l)] {
			l[:cap(l)][j] = api.Step{Op: -i - 1, Tag: -1, Sub: -1}
		}
		p.Parts[i] = nil
	}
	if !equal(q, want) || !reflect.DeepEqual(from, x) || !reflect.DeepEqual(to, y) {
		t.Fatal("memory that is shared")
	}
	makes(t, from, to, "answer", "reply", want)
}

// R3: the spare rooms of the parts are apart.
func TestSpareRooms(t *testing.T) {
	r := rand.New(rand.NewSource(4))
	for range 300 {
		from, to := small(r), small(r)
		p, e := adapt.Make(from, to, "a", "a")
		if e != api.OK {
			t.Fatal(e)
		}
		q := copied(p)
		for i, l := range p.Parts {
			for j := len(l); j < cap(l); j++ {
				l[:cap(l)][j] = api.Step{Op: -i - 1}
			}
		}
		for i, l := range p.Parts {
			for j := len(l); j < cap(l); j++ {
				if l[:cap(l)][j].Op != -i-1 {
					t.Fatal("one room of two parts")
				}
			}
		}
		if !equal(p, q) {
			t.Fatal("a part in the room of another one")
		}
	}
}

// roomy is l in memory of its own, with that much room behind it, each of that value.
func roomy[T any](l []T, spare T, n int) []T {
	return append(slices.Clone(l), slices.Repeat([]T{spare}, n)...)[:len(l)]
}

// R3: what stands behind the lists that are handed in is neither asked nor written to.
func TestSpareRoom(t *testing.T) {
	const n = 60
	f, spare := api.Field{Name: "spare", Tag: 77, Label: 3, Type: api.Type{Kind: 4}}, api.Message{Name: "spare"}
	from, to := schema(t, elder), schema(t, later)
	want, _ := reference(from, to, "answer", "reply")
	for _, s := range []*api.Schema{&from, &to} {
		s.Messages = roomy(s.Messages, spare, n)
		for i, m := range s.Messages {
			s.Messages[i].Fields, s.Messages[i].Reserved = roomy(m.Fields, f, n), roomy(m.Reserved, 1, n)
		}
	}
	makes(t, from, to, "answer", "reply", want)
	refuses(t, from, to, "spare", "spare", api.ErrNone)
	for _, s := range []api.Schema{from, to} {
		for _, m := range s.Messages {
			for _, x := range m.Fields[:len(m.Fields)+n][len(m.Fields):] {
				if x != f {
					t.Fatal(x)
				}
			}
		}
		for _, m := range s.Messages[:len(s.Messages)+n][len(s.Messages):] {
			if !reflect.DeepEqual(m, spare) {
				t.Fatal(m)
			}
		}
	}
}

// R4: nothing of one call is there in the next one.
func TestCallsStandAlone(t *testing.T) {
	from, to := schema(t, "schema s; message m { n a = 1; int64 b = 2; } message n { int32 a = 1; }"), schema(t, "schema s; message m { n a = 1; int32 b = 2; } message n { int32 a = 1; }")
	one := program(part(intoOne(1, 1), clamp(2)), part(keep(1)))
	two := program(part(intoOne(1, 0)))
	for range 3 {
		makes(t, from, to, "m", "m", one)
		makes(t, from, to, "n", "n", program(part(keep(1))))
		makes(t, from, to, "n", "m", program(nil))
		from.Messages[0].Fields[0].Type.Name, to.Messages[0].Fields[0].Type.Name, to.Messages[0].Fields[1].Label = "m", "m", 2
		makes(t, from, to, "m", "m", two)
		from.Messages[0].Fields[0].Tag = 2
		refuses(t, from, to, "m", "m", api.ErrArg)
		from.Messages[0].Fields[0].Tag = 1
		from.Messages[0].Fields[0].Type.Name, to.Messages[0].Fields[0].Type.Name, to.Messages[0].Fields[1].Label = "n", "n", 1
	}
	if check.Check(from) != api.OK {
		t.Fatal("it may not be")
	}
}
