package project_test

import (
	"math/rand"
	"reflect"
	"slices"
	"testing"

	"concordat/api"
	"concordat/check"
	"concordat/project"
	"concordat/value"
)

// shared is last in n messages, in each of which one stands count times under each of those tags: they are one in memory.
func shared(last api.Tree, n, count int, tags ...int) api.Tree {
	for range n {
		x := msg()
		for _, tag := range tags {
			x.Entries = append(x.Entries, at(tag, slices.Repeat([]api.Tree{last}, count)...))
		}
		last = x
	}
	return last
}

// R1: a tree in whose messages one stands very often is small in memory, however many ways lead down in it.
func TestSharedTreesEnd(t *testing.T) {
	s := schema(t, all)
	for _, x := range []struct{ last, want api.Tree }{
		{msg(), msg()}, {with(msg(at(11, num(1<<40))), rawNum(300, 1)), msg(at(11, num(1<<31-1)))}, {msg(at(11, num(0)), at(13, num(2))), msg()}, {msg(at(37, msg(at(2, num(1))))), msg(at(37, msg()))},
	} {
		n := api.MaxDepth - value.Depth(x.last)
		got, ok := project.Project(s, "m", shared(x.last, n, api.MaxItems, 37))
		if !ok || !value.Same(got, shared(x.want, n, api.MaxItems, 37)) {
			t.Fatalf("%s below", short(x.last))
		}
		if got, ok = project.Project(s, "m", shared(x.last, n, api.MaxItems, 27, 37, 300)); !ok {
			t.Fatalf("%s below", short(x.last))
		}
		// Under 27 the last one alone.
		want := x.want
		for range n {
			want = msg(at(27, want), at(37, slices.Repeat([]api.Tree{want}, api.MaxItems)...))
		}
		if !value.Same(got, want) {
			t.Fatalf("%s below", short(x.last))
		}
	}
	refuses(t, s, "m", shared(msg(), api.MaxDepth, api.MaxItems, 37))
}

// R1: of a tree of that sort nothing may be seen, so that no bound of what is answered helps.
func TestSharedTreesOfWhichNothingIsSeenEnd(t *testing.T) {
	m := api.Message{Name: "m"}
	var tags []int
	for i := range api.MaxFields {
		tags = append(tags, 10+i)
		m.Fields = append(m.Fields, api.Field{Name: string(rune('a' + i)), Tag: 10 + i, Label: api.One, Type: api.Type{Kind: api.Msg, Name: "m"}})
	}
	s := api.Schema{Name: "s", Messages: []api.Message{m}}
	if check.Check(s) != api.OK {
		t.Fatal("it may not be")
	}
	for _, last := range []api.Tree{msg(), with(msg(), rawNum(10, 1)), msg(at(10, num(1))), msg(at(500, num(1)))} {
		for _, count := range []int{1, api.MaxItems} {
			sees(t, s, "m", msg(at(500, num(1))), msg())
			if got, ok := project.Project(s, "m", shared(last, api.MaxDepth-1, count, tags...)); !ok || !isZero(got) {
				t.Fatalf("%s below: %v", short(last), ok)
			}
		}
	}
}

// One in memory may be seen by one message, and by another one; lists that begin at one place, and are not of one length, are two; so are messages with one list and another rest.
func TestOneMemory(t *testing.T) {
	s := schema(t, all)
	for _, one := range []api.Tree{msg(at(37, msg())), msg(at(11, num(1))), msg(at(1, str("a"))), msg(at(1, str("a")), at(11, num(1)), at(47, msg(at(1, str("a")), at(11, num(1))))), with(msg(), rawNum(11, 1))} {
		for _, x := range []api.Tree{msg(at(37, one, one), at(47, one)), msg(at(17, one), at(47, one)), msg(at(37, msg(at(47, one)), one))} {
			sees(t, s, "m", x, seen(s, "m", x))
			sees(t, s, "n", msg(at(37, one), at(47, x)), seen(s, "n", msg(at(37, one), at(47, x))))
		}
	}
	l, rest := []api.Entry{at(11, num(1)), at(12, num(2)), at(21, num(3))}, []api.Raw{rawNum(300, 0), rawNum(301, 0)}
	var trees []api.Tree
	for from := range len(l) {
		for to := from; to <= len(l); to++ {
			trees = append(trees, msg(l[from:to]...), with(msg(l[from:to]...), rest[:1]...), with(msg(l[from:to]...), rest...))
		}
	}
	x := msg(at(37, trees...))
	sees(t, s, "m", x, seen(s, "m", x))
	// They are unlike, so what is seen of them has no list in common.
	if got, _ := project.Project(s, "m", x); !apart(map[any]struct{}{}, got) {
		t.Fatal("lists share memory")
	}
}

// elements puts where each element of a list stands, of its spare room too; false, if one is there.
func elements[T any](there map[any]struct{}, l []T) bool {
	l = l[:cap(l)]
	for i := range l {
		if _, ok := there[&l[i]]; ok {
			return false
		}
		there[&l[i]] = struct{}{}
	}
	return true
}

// apart tells whether no two lists of a tree share memory.
func apart(there map[any]struct{}, t api.Tree) bool {
	ok := elements(there, t.Entries) && elements(there, t.Rest)
	for _, e := range t.Entries {
		ok = ok && elements(there, e.Trees)
		for _, x := range e.Trees {
			ok = ok && apart(there, x)
		}
	}
	return ok
}

// scribble writes over a list and its spare room.
func scribble[T any](l []T, x T) {
	l = l[:cap(l)]
	for i := range l {
		l[i] = x
	}
}

// scribbleTree writes over all of a tree's lists.
func scribbleTree(t api.Tree) {
	for _, e := range t.Entries {
		for _, x := range e.Trees {
			scribbleTree(x)
		}
		scribble(e.Trees, num(77))
	}
	scribble(t.Entries, at(77, num(77)))
	scribble(t.Rest, rawNum(77, 77))
}

// roomy is t in memory of its own, with spare room behind each list, of numbers and texts too.
func roomy(t api.Tree) api.Tree {
	entries := make([]api.Entry, 0, len(t.Entries)+3)
	for _, e := range t.Entries {
		trees := make([]api.Tree, 0, len(e.Trees)+3)
		for _, x := range e.Trees {
			trees = append(trees, roomy(x))
		}
		entries = append(entries, at(e.Tag, trees...))
	}
	t.Entries = entries
	t.Rest = append(make([]api.Raw, 0, len(t.Rest)+3), t.Rest...)
	return t
}

// R3: what is answered is new memory, what is handed in is neither turned nor kept.
func TestAnswersAreNew(t *testing.T) {
	r := rand.New(rand.NewSource(4))
	s, whole := schema(t, all), schema(t, all)
	tags := []int{1, 11, 12, 14, 17, 21, 27, 31, 37, 47, 300}
	for i := range 2000 {
		x := fitting(r, s, "m", 4, true)
		if i%2 == 0 {
			x = anyMessage(r, 3, tags...)
		}
		x = roomy(x)
		want := seen(s, "m", x)
		before := plain(x)
		a, _ := project.Project(s, "m", x)
		b, _ := project.Project(s, "m", x)
		there := map[any]struct{}{}
		if !apart(there, x) || !apart(there, a) || !apart(there, b) {
			t.Fatalf("of %s: lists share memory", short(before))
		}
		scribbleTree(a)
		if !equal(x, before) || !equal(b, want) {
			t.Fatalf("%s is now %s, %s is now %s", short(before), short(x), short(want), short(b))
		}
		sees(t, s, "m", x, want)
		scribbleTree(x)
		if !equal(b, want) {
			t.Fatalf("%s is now %s", short(want), short(b))
		}
	}
	if !reflect.DeepEqual(s, whole) {
		t.Fatal("the schema was turned")
	}
}

// R3: what stands behind lists that are handed in is not written to.
func TestSpareRoomStays(t *testing.T) {
	s := schema(t, all)
	trees := []api.Tree{num(1), num(1 << 40), num(3)}
	entries := []api.Entry{at(21, trees[:1]...), at(31, trees[:2]...), at(300, num(4))}
	rest := []api.Raw{rawNum(400, 1), rawNum(401, 2)}
	x := api.Tree{Kind: api.TreeMsg, Entries: entries[:2], Rest: rest[:1]}
	sees(t, s, "m", x, msg(at(21, num(1)), at(31, num(1), num(1<<31-1))))
	if trees[1].N != 1<<40 || trees[2].N != 3 || entries[2].Tag != 300 || entries[2].Trees[0].N != 4 || rest[1] != rawNum(401, 2) {
		t.Fatal(trees, entries, rest)
	}
}

// R4: neither the schema nor the value of one call are there in the next one.
func TestCallsStandAlone(t *testing.T) {
	s := schema(t, all)
	x := msg(at(37, msg(at(11, num(1)))))
	for range 3 {
		sees(t, s, "m", x, msg(at(37, msg(at(11, num(1))))))
		x.Entries[0].Trees[0].Entries[0].Trees[0].N = 2
		sees(t, s, "m", x, msg(at(37, msg(at(11, num(2))))))
		x.Entries[0].Trees[0].Entries[0].Trees[0].N = 1
		s.Messages[0].Fields[0].Tag = 10
		sees(t, s, "m", x, msg(at(37, msg())))
		s.Messages[0].Fields[0].Tag = 11
		s.Messages[0].Fields[0].Type.Kind = api.Text
		sees(t, s, "m", x, msg(at(37, msg())))
		s.Messages[0].Fields[0].Type.Kind = api.Int32
	}
}

// R1: whatever is handed in, a call ends without a panic; it refuses just what the promise says.
func TestAnyTrees(t *testing.T) {
	r := rand.New(rand.NewSource(5))
	good := schema(t, all)
	taken := 0
	for range 20000 {
		x := anyMessage(r, r.Intn(3), 1, 11, 13, 14, 17, 27, 31, 37, 47)
		for range r.Intn(3) {
			spoil(r, &x)
		}
		s := good
		if r.Intn(5) == 0 {
			s.Messages = slices.Clone(s.Messages)[:r.Intn(3)]
		}
		name := pick(r, "m", "n", "empty", "e", "")
		there := slices.ContainsFunc(s.Messages, func(m api.Message) bool { return m.Name == name })
		if check.Check(s) != api.OK || !there || x.Kind != 3 || !value.Check(x) {
			refuses(t, s, name, x)
			continue
		}
		sees(t, s, name, x, seen(s, name, x))
		taken++
	}
	if taken < 4000 || taken > 16000 {
		t.Fatalf("%d of 20000 are taken", taken)
	}
}

// spoil turns one part of t, or of a tree in it.
func spoil(r *rand.Rand, t *api.Tree) {
	if len(t.Entries) > 0 && r.Intn(4) > 0 {
		e := &t.Entries[r.Intn(len(t.Entries))]
		if len(e.Trees) > 0 && r.Intn(2) == 0 {
			spoil(r, &e.Trees[r.Intn(len(e.Trees))])
			return
		}
		switch r.Intn(3) {
		case 0:
			e.Tag = pick(r, e.Tag+1, e.Tag-1, 0, -1, 501, 1<<32+11)
		case 1:
			e.Trees = e.Trees[:r.Intn(len(e.Trees)+1)]
		case 2:
			e.Trees = append(slices.Clone(e.Trees), pick(r, num(1), str(""), msg(), api.Tree{}))
		}
		return
	}
	switch r.Intn(4) {
	case 0:
		*t = pick(r, num(0), num(1), str(""), msg(), api.Tree{}, api.Tree{Kind: 1<<32 + 3}, api.Tree{Kind: -1})
	case 1:
		t.N++
	case 2:
		t.S += "a"
	case 3:
		t.Rest = append(slices.Clone(t.Rest), rawNum(pick(r, 0, 2, 11, 37, 300, 501), 0))
	}
}
