package compat_test

import (
	"fmt"
	"math/rand"
	"reflect"
	"slices"
	"strings"
	"testing"

	"concordat/api"
	"concordat/check"
	"concordat/compat"
)

func pick[T any](r *rand.Rand, l ...T) T { return l[r.Intn(len(l))] }

// small is a schema that may be, of few messages, tags and names, so that two of them often meet.
func small(r *rand.Rand) api.Schema {
	s := api.Schema{Name: "s"}
	messages := []string{"a", "b", "c"}[:1+r.Intn(3)]
	for _, name := range messages {
		m := api.Message{Name: name}
		for _, tag := range r.Perm(3) {
			if r.Intn(5) == 0 {
				m.Reserved = append(m.Reserved, 1+tag*249)
				continue
			}
			f := api.Field{Name: fmt.Sprintf("x%d_%d", r.Intn(2), tag), Tag: 1 + tag*249, Label: pick(r, 2, 2, 2, 2, 1), Type: api.Type{Kind: pick(r, 1, 1, 1, 2, 3)}}
			switch r.Intn(4) {
			case 0:
				f.Type = api.Type{Kind: api.Enum, Name: pick(r, "e", "f")}
			case 1, 2:
				f.Type = api.Type{Kind: api.Msg, Name: pick(r, messages...)}
			}
			m.Fields = append(m.Fields, f)
		}
		s.Messages = append(s.Messages, m)
	}
	for _, name := range []string{"e", "f"} {
		x := values(name, api.Named{Name: "zero"})
		for n := 1; n < 3; n++ {
			if r.Intn(3) > 0 {
				x.Values = append(x.Values, api.Named{Name: pick(r, "one", "one", "one", "two") + fmt.Sprint(n), N: n})
			}
		}
		s.Enums = append(s.Enums, x)
	}
	for _, name := range []string{"f", "g"} {
		if r.Intn(6) > 0 {
			s.Methods = append(s.Methods, api.Method{Name: name, In: pick(r, messages...), Out: pick(r, messages...)})
		}
	}
	return s
}

// turned is s with a few of its parts turned, such as may be; often it evolves from s, often not.
func turned(r *rand.Rand, s api.Schema) api.Schema {
	for range 1 + r.Intn(3) {
		for x := deep(s); ; x = deep(s) {
			turn(r, &x)
			if check.Check(x) == api.OK {
				s = x
				break
			}
		}
	}
	return s
}

// turn turns one part of s.
func turn(r *rand.Rand, s *api.Schema) {
	m := &s.Messages[r.Intn(len(s.Messages))]
	x := &s.Enums[r.Intn(len(s.Enums))]
	switch i := r.Intn(len(m.Fields) + 1); r.Intn(9) {
	case 0, 1:
		if i < len(m.Fields) {
			m.Reserved = append(m.Reserved, m.Fields[i].Tag)
			m.Fields = slices.Delete(m.Fields, i, i+1)
		}
	case 2:
		if i < len(m.Fields) {
			m.Fields = slices.Delete(m.Fields, i, i+1)
		}
	case 3:
		m.Fields = slices.Insert(m.Fields, i, api.Field{Name: fmt.Sprint("y", r.Intn(9)), Tag: 1 + r.Intn(500), Label: 1 + r.Intn(3), Type: api.Type{Kind: 1 + r.Intn(5)}})
	case 4:
		if i < len(m.Fields) {
			f := &m.Fields[i]
			f.Label, f.Type.Kind = pick(r, f.Label, f.Label, 3), pick(r, f.Type.Kind, 2)
			if f.Type.Kind < 6 {
				f.Type.Name = ""
			}
		}
	case 5:
		x.Values = append(x.Values, api.Named{Name: fmt.Sprint("v", r.Intn(9)), N: r.Intn(9)})
	case 6:
		if j := r.Intn(len(x.Values)); x.Values[j].N > 0 {
			x.Values = slices.Delete(x.Values, j, j+1)
		}
	case 7:
		s.Methods = append(s.Methods, api.Method{Name: pick(r, "f", "g", "h"), In: m.Name, Out: s.Messages[0].Name})
	case 8:
		if len(s.Methods) > 0 {
			*pick(r, &s.Methods[0].In, &s.Methods[len(s.Methods)-1].Out) = m.Name
		}
	}
}

// P14.1 and P14.2: schemas of any sort, held against the reference; each evolves from itself (P14.3).
func TestAnySchemas(t *testing.T) {
	r := rand.New(rand.NewSource(1))
	count := map[bool]int{}
	places := map[verdict]int{}
	for range 30000 {
		old := small(r)
		if check.Check(old) != api.OK {
			t.Fatal(short(old))
		}
		new := turned(r, old)
		if r.Intn(4) == 0 {
			new = small(r)
		}
		got := is(t, old, new)
		count[got.ok]++
		places[got]++
		says(t, old, old, yes)
		for _, a := range old.Messages {
			for _, f := range a.Fields {
				for _, g := range new.Messages[0].Fields {
					want := referenceFits(old, new, meaning{kind: f.Type.Kind, name: f.Type.Name}, meaning{kind: g.Type.Kind, name: g.Type.Name})
					if compat.Fits(old, new, f.Type, g.Type) != want {
						t.Fatalf("Fits(%s, %s, %+v, %+v): %v", short(old), short(new), f.Type, g.Type, !want)
					}
				}
			}
		}
	}
	if count[true] < 5000 || count[false] < 5000 || len(places) < 11 {
		t.Fatal(count, places)
	}
}

// P14.3: what evolves from what evolves from a first one evolves from that; along chains, each from each ahead of it.
func TestChains(t *testing.T) {
	r := rand.New(rand.NewSource(2))
	long := 0
	for range 4000 {
		chain := []api.Schema{small(r)}
		for range 40 {
			last := chain[len(chain)-1]
			next := turned(r, last)
			if _, _, ok := compat.Evolves(last, next); ok {
				chain = append(chain, next)
			}
			if len(chain) == 6 {
				long++
				break
			}
		}
		for i := range chain {
			for j := i; j < len(chain); j++ {
				says(t, chain[i], chain[j], yes)
			}
		}
	}
	if long < 3000 {
		t.Fatalf("%d of 4000 are long", long)
	}
}

// P14.3: of any three, too, that were not made one from another.
func TestThree(t *testing.T) {
	r := rand.New(rand.NewSource(3))
	found := 0
	for range 300 {
		l := []api.Schema{small(r)}
		for range 24 {
			l = append(l, turned(r, pick(r, l...)))
		}
		var evolves [25][25]bool
		for i, a := range l {
			for j, b := range l {
				_, _, evolves[i][j] = compat.Evolves(a, b)
			}
		}
		for b := range l {
			for a := range l {
				for c := range l {
					if !evolves[a][b] || !evolves[b][c] {
						continue
					}
					found++
					if !evolves[a][c] {
						t.Fatalf("%s\n%s\n%s", short(l[a]), short(l[b]), short(l[c]))
					}
				}
			}
		}
	}
	if found < 30000 {
		t.Fatal(found)
	}
}

// P14.3: a chain of as many versions as a subject may have: fields come and go till all are reserved, numbers grow wider, enumerations and messages have other names each time.
func TestLongChain(t *testing.T) {
	var chain []api.Schema
	for v := range api.MaxVersions {
		message, enum := fmt.Sprint("m", v), fmt.Sprint("e", v)
		m := api.Message{Name: message}
		for i := range v {
			m.Reserved = append(m.Reserved, 500-i)
		}
		for i := v; i < v+3; i++ {
			kind := api.Int32
			if i == v {
				kind = api.Int64
			}
			m.Fields = append(m.Fields, api.Field{Name: fmt.Sprintf("x%d_%d", v, i), Tag: 500 - i, Label: api.Optional, Type: api.Type{Kind: kind}})
		}
		m.Fields = append(m.Fields, api.Field{Name: "self", Tag: 1, Label: api.Repeated, Type: api.Type{Kind: api.Msg, Name: message}}, api.Field{Name: "sort", Tag: 2, Label: api.One, Type: api.Type{Kind: api.Enum, Name: enum}})
		x := values(enum)
		for n := v; n >= 0; n-- {
			x.Values = append(x.Values, api.Named{Name: fmt.Sprint("v", n), N: n * 1000})
		}
		chain = append(chain, api.Schema{Name: fmt.Sprint("s", v), Messages: []api.Message{m}, Enums: []api.Enumeration{x}, Methods: []api.Method{{Name: "f", In: message, Out: message}}})
	}
	for i, old := range chain {
		for j, new := range chain {
			want := yes
			if i > j {
				want = verdict{fmt.Sprint("m", i), 2, false}
			}
			says(t, old, new, want)
		}
	}
}

// roomy is l in memory of its own, with that much room behind it, each of that value.
func roomy[T any](l []T, spare T, n int) []T {
	return append(slices.Clone(l), slices.Repeat([]T{spare}, n)...)[:len(l)]
}

// R3: what stands behind the lists that are handed in is neither asked nor written to.
func TestSpareRoom(t *testing.T) {
	const n = 60
	message, field, named, method := api.Message{Name: "spare"}, api.Field{Name: "spare", Tag: 400, Label: 1, Type: api.Type{Kind: 1}}, api.Named{Name: "spare", N: 400}, api.Method{Name: "spare"}
	s := schema(t, strings.Replace(shop, "reserved 4, 500;", "reserved 499, 4, 500, 77;", 1))
	more := deep(s)
	more.Messages, more.Methods, more.Enums[0].Values = roomy(more.Messages, message, n), roomy(more.Methods, method, n), roomy(more.Enums[0].Values, named, n)
	for i, m := range more.Messages {
		more.Messages[i].Fields, more.Messages[i].Reserved = roomy(m.Fields, field, n), roomy(m.Reserved, 401, n)
	}
	says(t, s, more, yes)
	says(t, more, s, yes)
	says(t, more, more, yes)
	for range n {
		more.Messages, more.Methods, more.Enums[0].Values = further(more.Messages), further(more.Methods), further(more.Enums[0].Values)
		for i, m := range more.Messages[:4] {
			more.Messages[i].Fields, more.Messages[i].Reserved = further(m.Fields), further(m.Reserved)
			if !reflect.DeepEqual(last(more.Messages[i].Fields), field) || last(more.Messages[i].Reserved) != 401 {
				t.Fatal(short(more.Messages[i]))
			}
		}
		if !reflect.DeepEqual(last(more.Messages), message) || last(more.Methods) != method || last(more.Enums[0].Values) != named {
			t.Fatal(short(more))
		}
	}
}

// further is l with the next one of its spare room.
func further[T any](l []T) []T { return l[:len(l)+1] }

func last[T any](l []T) T { return l[len(l)-1] }

// R3: reserved numbers stay in their order, of a message without a field, too.
func TestReservedOrder(t *testing.T) {
	s := schema(t, "schema s; message m { reserved 9, 500, 3, 7, 1; } call f(m) returns (m);")
	says(t, s, deep(s), yes)
	says(t, s, schema(t, "schema s; message m { reserved 9, 500, 3, 1; } call f(m) returns (m);"), verdict{"m", 7, false})
}

// R4: nothing of one call is there in the next one.
func TestCallsStandAlone(t *testing.T) {
	s, other := schema(t, shop), schema(t, shop)
	for range 3 {
		says(t, s, other, yes)
		other.Messages[2].Fields[2].Type.Kind = api.Text
		says(t, s, other, verdict{"ware", 3, false})
		says(t, other, other, yes)
		other.Messages[2].Fields[2].Type.Kind = api.Bytes
		s.Enums[0].Values[2].N = 8
		says(t, s, other, verdict{"ask", 3, false})
		s.Enums[0].Values[2].N = 7
	}
}

// R1: schemas of any sort, such as may not be, too; nothing panics.
func TestSpoiltSchemas(t *testing.T) {
	r := rand.New(rand.NewSource(4))
	taken := 0
	for range 30000 {
		old, new := small(r), small(r)
		if r.Intn(2) == 0 {
			new = deep(old)
		}
		for range r.Intn(3) {
			spoil(r, pick(r, &old, &new))
		}
		if is(t, old, new).ok {
			taken++
		}
		a, b := pick(r, old.Messages...), pick(r, new.Messages...)
		if len(a.Fields) > 0 && len(b.Fields) > 0 {
			x, y := a.Fields[0].Type, b.Fields[0].Type
			fits(t, old, new, x, y, referenceFits(old, new, meaning{kind: x.Kind, name: x.Name}, meaning{kind: y.Kind, name: y.Name}))
		}
	}
	if taken < 2000 || taken > 20000 {
		t.Fatal(taken)
	}
}

// spoil turns one part of s, so that it often may not be.
func spoil(r *rand.Rand, s *api.Schema) {
	m := &s.Messages[r.Intn(len(s.Messages))]
	x := &s.Enums[r.Intn(len(s.Enums))]
	names := []*string{&s.Name, &m.Name, &x.Name, &x.Values[0].Name}
	numbers := []*int{&x.Values[0].N, &x.Values[len(x.Values)-1].N}
	for i := range m.Fields {
		names = append(names, &m.Fields[i].Name, &m.Fields[i].Type.Name)
		numbers = append(numbers, &m.Fields[i].Tag, &m.Fields[i].Label, &m.Fields[i].Type.Kind)
	}
	for i := range m.Reserved {
		numbers = append(numbers, &m.Reserved[i])
	}
	for i := range s.Methods {
		names = append(names, &s.Methods[i].Name, &s.Methods[i].In, &s.Methods[i].Out)
	}
	if r.Intn(2) == 0 {
		*pick(r, names...) = pick(r, "", "a", "b", "e", "f", "zero", "schema", "\xff")
		return
	}
	*pick(r, numbers...) += pick(r, -1, 1, 1<<32, 500)
}
