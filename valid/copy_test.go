package valid_test

import (
	"math/rand"
	"runtime/debug"
	"testing"

	"concordat/api"
	"concordat/valid"
	"concordat/value"
)

// bareIs ends the test, if Bare does not answer want, or turns what is handed in.
func bareIs(t *testing.T, x, want api.Tree) {
	t.Helper()
	before := plain(x)
	if got := valid.Bare(x); !equal(got, want) {
		t.Fatalf("Bare(%s): %s; want %s", short(x), short(got), short(want))
	}
	if !equal(x, before) {
		t.Fatalf("Bare turned %s to %s", short(before), short(x))
	}
}

// P10.1: Bare.
func TestBare(t *testing.T) {
	raw := rawNum(9, 1)
	for _, x := range []struct{ t, want api.Tree }{
		{num(5), num(5)}, {str("a"), str("a")}, {str("\xff"), str("\xff")}, {msg(), msg()}, {api.Tree{}, api.Tree{}},
		{with(msg(), raw), msg()}, {with(msg(), raw, raw, rawText(10, "a")), msg()},
		{with(msg(at(1, num(0)), at(2, str(""), str("b"))), raw), msg(at(1, num(0)), at(2, str(""), str("b")))},
		{with(msg(at(1, with(msg(), raw))), raw), msg(at(1, msg()))},
		{msg(at(1, msg(), with(msg(at(2, with(msg(at(3, num(1))), raw))), raw), msg())), msg(at(1, msg(), msg(at(2, msg(at(3, num(1))))), msg()))},
		{with(msg(at(7, with(msg(at(1, num(1)), at(8, with(msg(), rawText(3, "c")), with(msg(at(2, str("x"))), raw))), raw)), at(8, with(msg(), raw))), rawNum(10, 0)), msg(at(7, msg(at(1, num(1)), at(8, msg(), msg(at(2, str("x")))))), at(8, msg()))},
		// Of trees that may not be all else stays as it is, too.
		{api.Tree{Kind: 9, N: 1, S: "a", Entries: []api.Entry{at(-1), at(-1, with(num(1), raw))}, Rest: []api.Raw{{}}}, api.Tree{Kind: 9, N: 1, S: "a", Entries: []api.Entry{at(-1), at(-1, num(1))}}},
		{api.Tree{Kind: api.TreeNum, N: 3, Entries: []api.Entry{at(1, with(msg(), raw))}, Rest: []api.Raw{raw}}, api.Tree{Kind: api.TreeNum, N: 3, Entries: []api.Entry{at(1, msg())}}},
		{api.Tree{Kind: api.TreeText, S: "a", Rest: []api.Raw{raw}}, str("a")}, {with(api.Tree{}, raw), api.Tree{}}, {msg(api.Entry{}), msg(api.Entry{})},
	} {
		bareIs(t, x.t, x.want)
		bareIs(t, x.want, x.want)
		bareIs(t, with(msg(at(1, num(1)), at(2, with(msg(at(3, x.t, x.t)), raw))), raw), msg(at(1, num(1)), at(2, msg(at(3, x.want, x.want)))))
		bareIs(t, wrap(x.t, 5, 50), wrap(x.want, 5, 50))
	}
}

// Each message of all the depth has a rest.
func TestBareInAllDepth(t *testing.T) {
	for n := range 200 {
		x, want := with(msg(), rawNum(1, n)), msg()
		for range n {
			x, want = with(msg(at(2, num(n)), at(3, msg(), x)), rawNum(1, n)), msg(at(2, num(n)), at(3, msg(), want))
		}
		bareIs(t, x, want)
	}
}

func TestBareAgainstReference(t *testing.T) {
	r := rand.New(rand.NewSource(3))
	s := schema(t, all)
	turned := 0
	for range 5000 {
		x := fitting(r, s, pick(r, "m", "n"), 4)
		for range r.Intn(3) {
			spoil(r, &x)
		}
		want := stripped(x)
		bareIs(t, x, want)
		if !equal(x, want) {
			turned++
		}
	}
	if turned < 500 {
		t.Fatalf("%d of 5000 have a rest", turned)
	}
}

// R1: trees that are not to be written out, because they stand in themselves, or in too many places.

func TestCopiesOfSharedTreesEnd(t *testing.T) {
	s := schema(t, all)
	for _, n := range []int{9, 50, 300} {
		full, bare := shared(with(msg(), rawNum(300, 1)), 37, n, 64), shared(msg(), 37, n, 64)
		if !value.Same(valid.Bare(full), bare) || !value.Same(full, shared(with(msg(), rawNum(300, 1)), 37, n, 64)) {
			t.Fatalf("Bare of one %d deep", n)
		}
		l, ok := valid.Get(s, "m", full, 37)
		if !ok || len(l) != 64 {
			t.Fatalf("Get of one %d deep: %d, %v", n, len(l), ok)
		}
		for _, x := range l {
			if !value.Same(x, full.Entries[0].Trees[0]) {
				t.Fatalf("Get of one %d deep", n)
			}
		}
	}
}

func TestCopiesOfRingsEnd(t *testing.T) {
	s := schema(t, all)
	for _, x := range []api.Tree{ring(37), ring(37, num(1), with(msg(), rawNum(2, 1))), msg(at(11, num(1)), at(37, ring(37), ring(1, ring(2))))} {
		b := valid.Bare(x)
		if len(b.Rest) > 0 || value.Depth(b) != 101 || value.Same(b, x) || !value.Same(b, valid.Bare(b)) {
			t.Fatal("Bare of a tree without an end")
		}
		// However far it is followed.
		for range 10 {
			trees := b.Entries[len(b.Entries)-1].Trees
			b = trees[len(trees)-1]
			if len(b.Rest) > 0 || &b.Entries[0] == &x.Entries[0] {
				t.Fatal("Bare within a tree without an end")
			}
		}
		trees := x.Entries[len(x.Entries)-1].Trees
		l, ok := valid.Get(s, "m", x, 37)
		if !ok || len(l) != len(trees) {
			t.Fatal("Get of a tree without an end")
		}
		for i, y := range l {
			if !value.Same(y, trees[i]) {
				t.Fatal("Get of a tree without an end")
			}
		}
	}
}

// Depths at which a call within a call for each level would have no room any more.
func TestCopiesOfDeepTreesEnd(t *testing.T) {
	defer debug.SetMaxStack(debug.SetMaxStack(1 << 20))
	const deep = 200000
	s := schema(t, all)
	x := wrap(with(msg(), rawNum(2, 1)), 37, deep)
	if !value.Same(valid.Bare(x), wrap(msg(), 37, deep)) {
		t.Fatal("Bare")
	}
	if l, ok := valid.Get(s, "m", x, 37); !ok || len(l) != 1 || !value.Same(l[0], wrap(with(msg(), rawNum(2, 1)), 37, deep-1)) {
		t.Fatal("Get")
	}
	if valid.Valid(s, "m", x) != api.ErrArg || valid.Zero(x) {
		t.Fatal("Valid, Zero")
	}
}

// Trees that have a list in common, and are not the same, are not taken for one another.
func TestCopiesOfOneMemory(t *testing.T) {
	s := schema(t, all)
	l, rest := []api.Entry{at(1, num(1)), at(2, msg(at(3, num(2))))}, []api.Raw{rawNum(4, 1), rawNum(5, 1)}
	trees := []api.Tree{
		msg(l[:1]...), msg(l...), msg(l[1:]...), with(msg(l...), rest...), with(msg(l...), rest[:1]...), with(msg(l...), rest[1:]...), with(msg(l[:1]...), rest...), with(msg(), rest...), with(msg(), rest[:1]...),
		{Kind: 9, Entries: l}, {Kind: api.TreeMsg, N: 1, Entries: l}, {Kind: api.TreeMsg, S: "a", Entries: l}, {Kind: api.TreeMsg, S: "b", Entries: l}, {Kind: api.TreeMsg, S: "b", Rest: rest},
	}
	x := msg(at(37, trees...))
	bareIs(t, x, stripped(x))
	getIs(t, s, "m", x, 37, trees, true)
}

// R3: what is answered shares no memory with what is handed in, and no list with another one of the answer.

// places are where the elements of all of the trees' lists stand.
func places(l []api.Tree, seen map[any]int) {
	for i, x := range l {
		seen[&l[i]]++
		for j := range x.Entries {
			seen[&x.Entries[j]]++
			places(x.Entries[j].Trees, seen)
		}
		for j := range x.Rest {
			seen[&x.Rest[j]]++
		}
	}
}

// items are how many elements the list, and all of the trees' lists, have.
func items(l []api.Tree) int {
	n := len(l)
	for _, x := range l {
		n += len(x.Entries) + len(x.Rest)
		for _, e := range x.Entries {
			n += items(e.Trees)
		}
	}
	return n
}

// scribble writes over a list, and all of the trees' lists, their spare room, too.
func scribble(l []api.Tree) {
	for _, x := range l {
		for _, e := range x.Entries[:cap(x.Entries)] {
			scribble(e.Trees)
		}
		fill(x.Entries, api.Entry{Tag: 77})
		fill(x.Rest, api.Raw{Tag: 77, N: 77})
	}
	fill(l, api.Tree{Kind: 77, N: 77})
}

func fill[T any](l []T, x T) {
	l = l[:cap(l)]
	for i := range l {
		l[i] = x
	}
}

func memoryTrees(s api.Schema) []api.Tree {
	inner := func() api.Tree {
		return with(msg(at(11, num(1)), at(37, msg(at(11, num(2))), with(msg(), rawNum(2, 2)))), rawText(300, "a"))
	}
	l := []api.Tree{
		msg(), inner(), msg(at(17, inner()), at(31, num(1), num(2)), at(37, inner(), msg(), inner())), wrap(inner(), 17, 30),
		{Kind: api.TreeMsg, Entries: []api.Entry{}, Rest: []api.Raw{}}, {Kind: api.TreeMsg, Entries: make([]api.Entry, 0, 4), Rest: make([]api.Raw, 0, 4)},
		msg(at(37, make([]api.Tree, 3, 9)...)), {Kind: api.TreeMsg, Entries: append(make([]api.Entry, 0, 5), at(17, inner())), Rest: append(make([]api.Raw, 0, 5), rawNum(2, 1))},
	}
	r := rand.New(rand.NewSource(4))
	for len(l) < 500 {
		l = append(l, fitting(r, s, "m", 4))
	}
	return l
}

// isNew ends the test, if what a call answers of x has memory in common with x or with another answer, or is not the same again when that is written over.
func isNew(t *testing.T, x api.Tree, call func() []api.Tree) {
	t.Helper()
	before := plain(x)
	a, b := call(), call()
	want := plains(b)
	seen := map[any]int{}
	places([]api.Tree{x}, seen)
	places(a, seen)
	places(b, seen)
	if n := items([]api.Tree{x}) + 2*items(want); len(seen) != n {
		t.Fatalf("of %s: %d places for %d items", short(before), len(seen), n)
	}
	scribble(a)
	if !equal(x, before) {
		t.Fatalf("%s is now %s", short(before), short(x))
	}
	if !equal(msg(at(1, b...)), msg(at(1, want...))) || !equal(msg(at(1, call()...)), msg(at(1, want...))) {
		t.Fatalf("of %s: now %s, once %s", short(before), short(b), short(want))
	}
}

func TestAnswersAreNew(t *testing.T) {
	s := schema(t, all)
	for _, x := range memoryTrees(s) {
		isNew(t, x, func() []api.Tree { return []api.Tree{valid.Bare(x)} })
		for _, f := range s.Messages[0].Fields {
			isNew(t, x, func() []api.Tree {
				l, _ := valid.Get(s, "m", x, f.Tag)
				return l
			})
		}
	}
}

// What is handed in is not kept: writing over it leaves the answer as it is.
func TestAnswersStay(t *testing.T) {
	s := schema(t, all)
	for _, x := range memoryTrees(s) {
		b := valid.Bare(x)
		got := map[int][]api.Tree{}
		want := map[int][]api.Tree{}
		for _, f := range s.Messages[0].Fields {
			l, _ := valid.Get(s, "m", x, f.Tag)
			got[f.Tag], want[f.Tag] = l, plains(l)
		}
		bare := plain(b)
		scribble([]api.Tree{x})
		if !equal(b, bare) {
			t.Fatalf("Bare's %s is now %s", short(bare), short(b))
		}
		for tag, l := range got {
			if !equal(msg(at(1, l...)), msg(at(1, want[tag]...))) {
				t.Fatalf("Get's %s is now %s", short(want[tag]), short(l))
			}
		}
	}
}
