package decode_test

import (
	"math/rand"
	"reflect"
	"strings"
	"testing"

	"concordat/api"
	"concordat/decode"
)

// elements puts where each element of a list stands, of its spare room too; false, if one is there.
func elements[T any](seen map[any]struct{}, l []T) bool {
	l = l[:cap(l)]
	for i := range l {
		if _, ok := seen[&l[i]]; ok {
			return false
		}
		seen[&l[i]] = struct{}{}
	}
	return true
}

// apart tells whether no two lists of a tree share memory.
func apart(seen map[any]struct{}, t api.Tree) bool {
	ok := elements(seen, t.Entries) && elements(seen, t.Rest)
	for _, e := range t.Entries {
		ok = ok && elements(seen, e.Trees)
		for _, x := range e.Trees {
			ok = ok && apart(seen, x)
		}
	}
	return ok
}

// scribble writes over a list and its spare room.
func scribble[T any](l []T, x T) {
	l = l[:cap(l)]
	for i := range l {
		l[i] = x
	}
}

// scribbleTree writes over all of a tree's lists.
func scribbleTree(t api.Tree) {
	for _, e := range t.Entries {
		for _, x := range e.Trees {
			scribbleTree(x)
		}
		scribble(e.Trees, num(77))
	}
	scribble(t.Entries, at(77, num(77)))
	scribble(t.Rest, rawNum(77, 77))
}

// R3: what is answered is new memory, what is handed in is neither turned nor kept.
func TestAnswersAreNew(t *testing.T) {
	r := rand.New(rand.NewSource(4))
	s, whole := schema(t, all), schema(t, all)
	inputs := []string{"", fn(31, 1) + fn(31, 2) + fn(31, 3), fn(300, 1) + fn(299, 1) + fn(298, 1), ft(37, fn(300, 1)) + ft(37, fn(300, 1)) + ft(37, fn(300, 1)), ft(15, "abc") + ft(300, "abc"), wrap(fn(11, 1)+fn(300, 1), 37, 9)}
	for len(inputs) < 3000 {
		inputs = append(inputs, someBytes(r, s, "m", 3))
	}
	for _, b := range inputs {
		want, e := decoded(s, "m", b, 1)
		room := append(make([]byte, 0, len(b)+8), b...)
		scribble(room[len(b):], 55)
		x, _ := decode.Decode(s, "m", room)
		y, _ := decode.Decode(s, "m", room)
		decode.Canonical(s, "m", room)
		if string(room) != b || strings.Trim(string(room[:cap(room)][len(b):]), "7") != "" {
			t.Fatalf("% x is now % x", b, room[:cap(room)])
		}
		seen := map[any]struct{}{}
		if !apart(seen, x) || !apart(seen, y) {
			t.Fatalf("lists of %s share memory", short(x))
		}
		scribble(room, 77)
		scribbleTree(x)
		if !equal(y, want) {
			t.Fatalf("%s is now %s", short(want), short(y))
		}
		answers(t, s, "m", b, want, e)
	}
	if !reflect.DeepEqual(s, whole) {
		t.Fatal("the schema was turned")
	}
}

// R4: neither the schema nor the bytes of one call are there in the next one.
func TestCallsStandAlone(t *testing.T) {
	s := schema(t, all)
	b := []byte(ft(37, fn(11, 1)))
	for range 3 {
		answers(t, s, "m", string(b), msg(at(37, msg(at(11, num(1))))), api.OK)
		b[len(b)-1] = 4
		answers(t, s, "m", string(b), msg(at(37, msg(at(11, num(2))))), api.OK)
		b[len(b)-1] = 2
		s.Messages[0].Fields[0].Tag = 10
		answers(t, s, "m", string(b), msg(at(37, with(msg(), rawNum(11, 1)))), api.OK)
		s.Messages[0].Fields[0].Tag = 11
		s.Messages[0].Fields[0].Type.Kind = api.Text
		answers(t, s, "m", string(b), api.Tree{}, api.ErrType)
		s.Messages[0].Fields[0].Type.Kind = api.Int32
	}
}

// R1: whatever the bytes are, a call ends without a panic, with nothing beside an error.
func TestAnyBytes(t *testing.T) {
	r := rand.New(rand.NewSource(5))
	s := schema(t, all)
	heads := []byte{0x16, 0x18, 0x1a, 0x1d, 0x1f, 0x20, 0x23, 0x37, 0x3e, 0x4b, 0x5f, 0, 1, 2, 3, 0x80, 0xff}
	for range 50000 {
		b := make([]byte, r.Intn(24))
		for i := range b {
			b[i] = pick(r, heads...)
			if r.Intn(2) == 0 {
				b[i] = byte(r.Intn(8))
			}
		}
		name := pick(r, "m", "n", "empty", "")
		want, e := decoded(s, name, string(b), 1)
		answers(t, s, name, string(b), want, e)
	}
}
