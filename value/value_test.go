package value_test

import (
	"errors"
	"math"
	"math/rand"
	"reflect"
	"runtime"
	"slices"
	"testing"

	"concordat/api"
	"concordat/value"
)

// of is x as a value; the test ends, if there is none.
func of(t *testing.T, x api.Tree) value.Value {
	t.Helper()
	v, ok := value.Of(x)
	if !ok {
		t.Fatalf("Of(%s) is refused", short(x))
	}
	return v
}

// holds ends the test, if v is not a value of want, in all that can be asked of it.
func holds(t *testing.T, v value.Value, want api.Tree) {
	t.Helper()
	if v.Kind() != want.Kind {
		t.Fatalf("Kind of %s: %d", short(want), v.Kind())
	}
	if got := v.Tree(); !equal(got, want) {
		t.Fatalf("Tree of %s: %s", short(want), short(got))
	}
	keeps(t, v, want)
	if n, ok := v.AsNode(); ok {
		nodeHolds(t, n, want)
	}
}

// nodeHolds is holds, of a node.
func nodeHolds(t *testing.T, n *value.Node, want api.Tree) {
	t.Helper()
	var tags []int
	for _, e := range want.Entries {
		tags = append(tags, e.Tag)
		l := n.Get(e.Tag)
		if len(l) != len(e.Trees) {
			t.Fatalf("Get(%d) of %s: %d values", e.Tag, short(want), len(l))
		}
		for i, v := range l {
			holds(t, v, e.Trees[i])
		}
	}
	if got := n.Tags(); !slices.Equal(got, tags) {
		t.Fatalf("Tags of %s: %v", short(want), got)
	}
	if got := n.Rest(); !slices.Equal(got, want.Rest) {
		t.Fatalf("Rest of %s: %v", short(want), got)
	}
	for _, tag := range []int{math.MinInt64, -1, 0, 1, 2, 3, 4, 5, 250, 499, 500, 501, 1<<32 + 1, math.MaxInt64} {
		if l := n.Get(tag); !slices.Contains(tags, tag) && len(l) > 0 {
			t.Fatalf("Get(%d) of %s: %d values", tag, short(want), len(l))
		}
	}
}

// keeps ends the test, if the As and Must calls of v do not tell that it keeps what want is; nothing, if that is zero.
func keeps(t *testing.T, v value.Value, want api.Tree) {
	t.Helper()
	n, isNum := v.AsNum()
	s, isStr := v.AsStr()
	m, isNode := v.AsNode()
	if isNum != (want.Kind == api.TreeNum) || isStr != (want.Kind == api.TreeText) || isNode != (want.Kind == api.TreeMsg) || isNode != (m != nil) {
		t.Fatalf("%s: AsNum %v, AsStr %v, AsNode %v", short(want), isNum, isStr, isNode)
	}
	if n != want.N || s != want.S {
		t.Fatalf("%s: AsNum %d, AsStr %q", short(want), n, s)
	}
	mustIs(t, v.MustNum, n, isNum)
	mustIs(t, v.MustStr, s, isStr)
	mustIs(t, v.MustNode, m, isNode)
}

// mustIs ends the test, if must does not answer want, or, where ok is false, does not panic by Go's own error of an assertion.
func mustIs[T comparable](t *testing.T, must func() T, want T, ok bool) {
	t.Helper()
	got, err := caught(must)
	var wrong *runtime.TypeAssertionError
	if ok && (err != nil || got != want) {
		t.Fatalf("%v: %v, %v", want, got, err)
	}
	if !ok && !errors.As(err, &wrong) {
		t.Fatalf("it should panic: %v, %v", got, err)
	}
}

// caught is what f answers, or the error by which it panics.
func caught[T any](f func() T) (out T, err error) {
	defer func() {
		if p := recover(); p != nil {
			err, _ = p.(error)
		}
	}()
	return f(), nil
}

// P9.2

func TestOfAndTree(t *testing.T) {
	for _, x := range goodTrees() {
		holds(t, of(t, x), x)
	}
}

func TestOfRefuses(t *testing.T) {
	for _, x := range wrongTrees() {
		v, ok := value.Of(x)
		if ok || v != (value.Value{}) {
			t.Fatalf("Of(%s): %v, %v", short(x), v, ok)
		}
	}
}

func TestNumAndStr(t *testing.T) {
	for _, n := range []int{0, 1, -1, 7, 1 << 31, 1 << 40, math.MaxInt64, math.MinInt64} {
		holds(t, value.Num(n), num(n))
		if v := of(t, num(n)); v != value.Num(n) {
			t.Fatalf("Of and Num of %d: %v, %v", n, v, value.Num(n))
		}
	}
	for _, s := range []string{"", "a", "1", "größe", "\x00", "\xff\xfe", string(make([]byte, 1<<16))} {
		holds(t, value.Str(s), str(s))
		if v := of(t, str(s)); v != value.Str(s) {
			t.Fatalf("Of and Str of %q", s)
		}
	}
}

func TestZeroValue(t *testing.T) {
	var v value.Value
	if v.Kind() != 0 || !reflect.DeepEqual(v.Tree(), api.Tree{}) {
		t.Fatalf("Kind %d, Tree %s", v.Kind(), short(v.Tree()))
	}
	keeps(t, v, api.Tree{})
}

func TestNode(t *testing.T) {
	x := with(msg(at(1, num(-5)), at(3, str("a"), str("")), at(500, msg(at(2, num(0))), msg())), rawNum(2, 7), rawText(2, "b"))
	n := of(t, x).MustNode()
	if !slices.Equal(n.Tags(), []int{1, 3, 500}) {
		t.Fatalf("Tags: %v", n.Tags())
	}
	if l := n.Get(3); len(l) != 2 || l[0] != value.Str("a") || l[1] != value.Str("") {
		t.Fatalf("Get(3): %v", l)
	}
	if l := n.Get(500); len(l) != 2 || !equal(l[0].Tree(), tagged(2, 0)) || !equal(l[1].Tree(), msg()) {
		t.Fatalf("Get(500): %v", l)
	}
	if l := n.Get(2); len(l) != 0 {
		t.Fatalf("Get of what Rest has: %v", l)
	}
	if l := n.Rest(); !slices.Equal(l, []api.Raw{rawNum(2, 7), rawText(2, "b")}) {
		t.Fatalf("Rest: %v", l)
	}
}

// tagged is a message with one number.
func tagged(tag, n int) api.Tree { return msg(at(tag, num(n))) }

func TestNodeWithout(t *testing.T) {
	n := of(t, msg()).MustNode()
	if len(n.Tags()) != 0 || len(n.Get(1)) != 0 || len(n.Get(0)) != 0 || len(n.Rest()) != 0 {
		t.Fatal("an empty message")
	}
	n = of(t, with(msg(), rawNum(1, 1))).MustNode()
	if len(n.Tags()) != 0 || len(n.Get(1)) != 0 || len(n.Rest()) != 1 {
		t.Fatal("a message with Rest alone")
	}
}

func TestOfAgainstRandomTrees(t *testing.T) {
	r := rand.New(rand.NewSource(4))
	for range 5000 {
		x := randomTree(r, 4)
		holds(t, of(t, x), x)
	}
}

// P9.3

func TestAsAndMust(t *testing.T) {
	for _, x := range []struct {
		v    value.Value
		want api.Tree
	}{
		{value.Num(1), num(1)}, {value.Num(0), num(0)}, {value.Num(math.MinInt64), num(math.MinInt64)},
		{value.Str("1"), str("1")}, {value.Str(""), str("")},
		{of(t, num(3)), num(3)}, {of(t, str("q")), str("q")},
		{of(t, msg()), msg()}, {of(t, tags(1, 2)), tags(1, 2)}, {of(t, with(msg(), rawNum(1, 1))), with(msg(), rawNum(1, 1))},
		{value.Value{}, api.Tree{}},
	} {
		keeps(t, x.v, x.want)
	}
}

// The chapter's examples.
func TestExamples(t *testing.T) {
	if s, ok := value.Num(1).AsStr(); s != "" || ok {
		t.Errorf("Num(1).AsStr(): %q, %v", s, ok)
	}
	if s, err := caught(value.Num(1).MustStr); err == nil {
		t.Errorf("Num(1).MustStr(): %q", s)
	}
}

func TestNodeIsOne(t *testing.T) {
	v := of(t, msg(at(1, msg())))
	n, _ := v.AsNode()
	if m, _ := v.AsNode(); m != n || v.MustNode() != n || n.Get(1)[0] != n.Get(1)[0] {
		t.Fatal("each time another one")
	}
	if m := of(t, msg(at(1, msg()))).MustNode(); m == n {
		t.Fatal("two values have one node")
	}
}

// R3: nothing that is handed in is kept or turned, nothing that is answered is shared.

// scribble writes over all of a tree's lists, their spare room, too.
func scribble(x api.Tree) {
	for _, e := range x.Entries[:cap(x.Entries)] {
		for _, y := range e.Trees[:cap(e.Trees)] {
			scribble(y)
		}
		fill(e.Trees, api.Tree{Kind: 77, N: 77})
	}
	fill(x.Entries, api.Entry{Tag: 77})
	fill(x.Rest, api.Raw{Tag: 77, N: 77})
}

func fill[T any](l []T, x T) {
	l = l[:cap(l)]
	for i := range l {
		l[i] = x
	}
}

// places are where the elements of all of a tree's lists stand.
func places(x api.Tree, seen map[any]int) {
	for i := range x.Entries {
		seen[&x.Entries[i]]++
		for j := range x.Entries[i].Trees {
			seen[&x.Entries[i].Trees[j]]++
			places(x.Entries[i].Trees[j], seen)
		}
	}
	for i := range x.Rest {
		seen[&x.Rest[i]]++
	}
}

// items are how many elements all of a tree's lists have.
func items(x api.Tree) int {
	n := len(x.Entries) + len(x.Rest)
	for _, e := range x.Entries {
		n += len(e.Trees)
		for _, y := range e.Trees {
			n += items(y)
		}
	}
	return n
}

func memoryTrees() []api.Tree {
	l := []api.Tree{
		msg(), tags(1, 2, 3), allTags(), msg(at(1, nums(api.MaxItems)...)), with(msg(), rawNum(1, 1), rawText(1, "a"), rawNum(2, 2)),
		with(msg(at(1, num(-5)), at(3, str("a"), str("")), at(500, msg(at(2, num(0))), with(msg(), rawNum(1, 1)))), rawNum(2, 7), rawText(2, "b")),
		wrap(with(tags(2, 3, 4), rawNum(1, 1)), api.MaxDepth-1),
		{Kind: api.TreeMsg, Entries: []api.Entry{}, Rest: []api.Raw{}},
		{Kind: api.TreeMsg, Entries: make([]api.Entry, 0, 4), Rest: make([]api.Raw, 0, 4)},
	}
	r := rand.New(rand.NewSource(5))
	for len(l) < 500 {
		if x := randomTree(r, 4); x.Kind == api.TreeMsg {
			l = append(l, x)
		}
	}
	return l
}

func TestOfKeepsNothing(t *testing.T) {
	for _, x := range memoryTrees() {
		want := bare(x)
		v := of(t, x)
		scribble(x)
		holds(t, v, want)
	}
}

func TestTreeIsNew(t *testing.T) {
	for _, x := range memoryTrees() {
		want := bare(x)
		v := of(t, x)
		a, b := v.Tree(), v.Tree()
		seen := map[any]int{}
		for _, y := range []api.Tree{x, a, b} {
			places(y, seen)
		}
		if len(seen) != 3*items(want) {
			t.Fatalf("of %s: %d places for %d items", short(want), len(seen), 3*items(want))
		}
		scribble(a)
		if !equal(b, want) || !equal(x, want) {
			t.Fatalf("%s: now %s, handed in %s", short(want), short(b), short(x))
		}
		holds(t, v, want)
	}
}

func TestNodeAnswersAreNew(t *testing.T) {
	for _, x := range memoryTrees() {
		v := of(t, x)
		n := v.MustNode()
		nodeScribble(n)
		holds(t, v, x)
	}
}

// nodeScribble writes over all lists that n, and nodes in it, answer.
func nodeScribble(n *value.Node) {
	for _, tag := range n.Tags() {
		for _, v := range n.Get(tag) {
			if m, ok := v.AsNode(); ok {
				nodeScribble(m)
			}
		}
		fill(n.Get(tag), value.Num(77))
	}
	fill(n.Tags(), 77)
	fill(n.Rest(), api.Raw{Tag: 77})
}

// R4: values have nothing in common, and asking changes nothing.
func TestValuesAreApart(t *testing.T) {
	x := with(msg(at(1, msg(at(1, num(1))))), rawNum(3, 3))
	a, b := of(t, x), of(t, x)
	scribble(a.Tree())
	nodeScribble(a.MustNode())
	for range 3 {
		holds(t, a, x)
		holds(t, b, x)
	}
}
