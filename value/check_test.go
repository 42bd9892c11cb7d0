package value_test

import (
	"fmt"
	"math"
	"math/rand"
	"reflect"
	"runtime/debug"
	"slices"
	"strings"
	"testing"

	"concordat/api"
	"concordat/value"
)

func num(n int) api.Tree { return api.Tree{Kind: api.TreeNum, N: n} }

func str(s string) api.Tree { return api.Tree{Kind: api.TreeText, S: s} }

func msg(l ...api.Entry) api.Tree { return api.Tree{Kind: api.TreeMsg, Entries: l} }

func at(tag int, l ...api.Tree) api.Entry { return api.Entry{Tag: tag, Trees: l} }

// with is t with that rest.
func with(t api.Tree, l ...api.Raw) api.Tree {
	t.Rest = l
	return t
}

func rawNum(tag, n int) api.Raw { return api.Raw{Tag: tag, N: n} }

func rawText(tag int, s string) api.Raw { return api.Raw{Tag: tag, Wire: api.WireText, B: s} }

// wrap is t in that many messages.
func wrap(t api.Tree, n int) api.Tree {
	for range n {
		t = msg(at(1, t))
	}
	return t
}

// nums are that many trees of numbers.
func nums(n int) []api.Tree {
	l := make([]api.Tree, n)
	for i := range l {
		l[i] = num(i)
	}
	return l
}

// tags is a message with an entry of each of these tags.
func tags(l ...int) api.Tree {
	t := msg()
	for _, tag := range l {
		t.Entries = append(t.Entries, at(tag, num(tag)))
	}
	return t
}

// allTags is a message with an entry of every tag there may be.
func allTags() api.Tree {
	t := msg()
	for i := range api.MaxTag {
		t.Entries = append(t.Entries, at(i+1, num(i)))
	}
	return t
}

// ring is a message that stands in itself, beside the trees ahead of it.
func ring(ahead ...api.Tree) api.Tree {
	l := append(slices.Clone(ahead), api.Tree{})
	l[len(ahead)] = msg(at(1, l...))
	return l[len(ahead)]
}

// shared is a message, n deep, in each of whose messages one stands count times: they are one in memory.
func shared(n, count int) api.Tree {
	t := msg()
	for range n - 1 {
		t = msg(at(1, slices.Repeat([]api.Tree{t}, count)...))
	}
	return t
}

func short(x any) string {
	s := strings.ToValidUTF8(fmt.Sprintf("%+v", x), "?")
	if len(s) > 600 {
		return s[:600] + ".."
	}
	return s
}

// goodTrees are trees that may be: ordinary ones, and those at the edges.
func goodTrees() []api.Tree {
	wide := with(msg(at(1, num(-5)), at(3, str("a"), str("")), at(500, msg(at(2, num(0))), msg())), rawNum(2, 7), rawText(2, "b"))
	return []api.Tree{
		num(0), num(1), num(-1), num(math.MaxInt64), num(math.MinInt64),
		{Kind: api.TreeNum, Entries: []api.Entry{}, Rest: []api.Raw{}},
		str(""), str("a"), str("größe"), str("\x00"), str("\xff\xc3"), str(strings.Repeat("a", api.MaxBytes+1)), str(strings.Repeat("\xff", 1<<17)),
		{Kind: api.TreeText, S: "a", Entries: []api.Entry{}, Rest: []api.Raw{}},
		msg(), {Kind: api.TreeMsg, Entries: []api.Entry{}, Rest: []api.Raw{}},
		tags(1), tags(500), tags(1, 2), tags(1, 500), tags(250, 251, 499, 500), allTags(),
		msg(at(1, str(""))), msg(at(1, msg())), msg(at(1, num(0)), at(2, str("")), at(3, msg())),
		msg(at(1, num(1), num(1))), msg(at(1, str("a"), str(""))), msg(at(1, msg(), tags(1), wide)),
		msg(at(1, nums(api.MaxItems)...)), msg(at(1, nums(api.MaxItems-1)...)), msg(at(1, slices.Repeat([]api.Tree{msg()}, api.MaxItems)...), at(500, nums(api.MaxItems)...)),
		with(msg(), rawNum(1, 0)), with(msg(), rawNum(500, math.MinInt64)), with(msg(), rawText(1, "")), with(msg(), rawText(500, strings.Repeat("a", api.MaxBytes))),
		with(msg(), rawNum(4, 1), rawNum(4, 1), rawText(4, "a"), rawNum(4, 0), rawNum(5, 0)),
		with(tags(5), rawNum(4, 0), rawNum(6, 0)), with(tags(2, 4), rawNum(1, 0), rawText(3, ""), rawNum(5, 0), rawNum(500, 0)),
		with(msg(), slices.Repeat([]api.Raw{rawNum(7, 1)}, 1000)...),
		wide, msg(at(9, wide, wide)), wrap(wide, api.MaxDepth-2),
		wrap(msg(), 1), wrap(msg(), api.MaxDepth-1), wrap(num(1), 1), wrap(num(1), api.MaxDepth), wrap(str("a"), api.MaxDepth),
		wrap(with(msg(), rawNum(1, 1)), api.MaxDepth-1),
		msg(at(1, num(1)), at(2, msg(), wrap(msg(), api.MaxDepth-2)), at(3, msg())),
		shared(api.MaxDepth, 2),
	}
}

// wrongTrees are trees that may not be, for one reason each.
func wrongTrees() []api.Tree {
	some := []api.Entry{at(1, num(1))}
	rest := []api.Raw{rawNum(1, 1)}
	return []api.Tree{
		{}, {N: 1}, {S: "a"}, {Kind: -1}, {Kind: 4}, {Kind: 5}, {Kind: 1<<32 + 1}, {Kind: math.MaxInt64}, {Kind: math.MinInt64}, {Kind: 4, Entries: some}, {Entries: some},
		{Kind: api.TreeNum, S: "a"}, {Kind: api.TreeNum, N: 1, S: "\x00"}, {Kind: api.TreeNum, Entries: some}, {Kind: api.TreeNum, Rest: rest}, {Kind: api.TreeNum, Entries: []api.Entry{{}}}, {Kind: api.TreeNum, Rest: []api.Raw{{}}},
		{Kind: api.TreeText, N: 1}, {Kind: api.TreeText, S: "a", N: -1}, {Kind: api.TreeText, N: math.MinInt64}, {Kind: api.TreeText, Entries: some}, {Kind: api.TreeText, Rest: rest}, {Kind: api.TreeText, S: "a", Entries: []api.Entry{{}}},
		{Kind: api.TreeMsg, N: 1}, {Kind: api.TreeMsg, S: "a"}, {Kind: api.TreeMsg, N: -1, Entries: some}, {Kind: api.TreeMsg, S: "\x00", Rest: rest},
		tags(0), tags(-1), tags(501), tags(math.MaxInt64), tags(math.MinInt64), tags(1<<32 + 1), tags(0, 1), tags(-1, 1), tags(500, 501), tags(1, 500, 1<<32+501),
		tags(1, 1), tags(500, 500), tags(2, 1), tags(1, 3, 2), tags(1, 2, 2, 3), tags(1, 2, 1),
		msg(at(1)), msg(at(1, num(1)), at(2)), {Kind: api.TreeMsg, Entries: []api.Entry{{Tag: 1, Trees: []api.Tree{}}}}, {Kind: api.TreeMsg, Entries: []api.Entry{{}}},
		msg(at(1, nums(api.MaxItems+1)...)), msg(at(1, num(1)), at(500, nums(2*api.MaxItems)...)), msg(at(1, slices.Repeat([]api.Tree{msg()}, api.MaxItems+1)...)),
		msg(at(1, num(1), str(""))), msg(at(1, str(""), num(0))), msg(at(1, msg(), num(0))), msg(at(1, num(1), num(1), msg())), msg(at(1, str("a"), msg(), str("a"))),
		msg(at(1, append(nums(api.MaxItems-1), str(""))...)), msg(at(1, num(1)), at(2, num(1), str(""))),
		msg(at(1, api.Tree{})), msg(at(1, api.Tree{}, api.Tree{})), msg(at(1, api.Tree{Kind: 4})), msg(at(1, num(1), api.Tree{Kind: api.TreeNum, S: "a"})), msg(at(1, api.Tree{Kind: api.TreeText, N: 1}, str(""))),
		wrap(api.Tree{}, api.MaxDepth), wrap(tags(0), api.MaxDepth-1), wrap(tags(2, 2), 3), wrap(with(msg(), rawNum(0, 0)), 2), msg(at(1, msg()), at(2, msg(), msg(), tags(501))),
		with(msg(), api.Raw{}), with(msg(), rawNum(0, 1)), with(msg(), rawNum(-1, 1)), with(msg(), rawNum(501, 1)), with(msg(), rawText(math.MinInt64, "")),
		with(msg(), api.Raw{Tag: 1, B: "a"}), with(msg(), api.Raw{Tag: 1, Wire: 1, N: 1}), with(msg(), api.Raw{Tag: 1, Wire: 2}), with(msg(), api.Raw{Tag: 1, Wire: -1}), with(msg(), rawText(1, strings.Repeat("a", api.MaxBytes+1))),
		with(msg(), rawNum(1, 1), rawNum(0, 1)), with(msg(), rawNum(1, 1), api.Raw{Tag: 1, Wire: 3}, rawNum(1, 1)),
		with(msg(), rawNum(2, 1), rawNum(1, 1)), with(msg(), rawNum(1, 0), rawText(3, ""), rawNum(2, 0)), with(msg(), rawNum(500, 0), rawNum(499, 0)),
		with(tags(5), rawNum(5, 0)), with(tags(5), rawText(5, "")), with(tags(5), rawNum(4, 0), rawNum(5, 0), rawNum(6, 0)), with(tags(1, 3), rawNum(2, 0), rawNum(3, 0)), with(tags(1, 3, 500), rawNum(500, 0)), with(tags(1, 3, 500), rawNum(1, 0)), with(allTags(), rawNum(250, 0)),
		wrap(msg(), api.MaxDepth), wrap(num(1), api.MaxDepth+1), wrap(msg(), 100), wrap(msg(), 1000), wrap(str(""), 300),
		msg(at(1, num(1)), at(2, msg(), wrap(msg(), api.MaxDepth-1)), at(3, msg())),
		shared(api.MaxDepth+1, 1), shared(api.MaxDepth+1, 2),
	}
}

// checkIs ends the test, if Check(x) or what Of tells is not want, or x is turned.
func checkIs(t *testing.T, x api.Tree, want bool) {
	t.Helper()
	before := bare(x)
	if got := value.Check(x); got != want {
		t.Fatalf("Check(%s): %v", short(x), got)
	}
	v, ok := value.Of(x)
	if ok != want {
		t.Fatalf("Of(%s): %v", short(x), ok)
	}
	if !ok && v != (value.Value{}) {
		t.Fatalf("Of(%s): %v, though it is refused", short(x), v)
	}
	if !reflect.DeepEqual(bare(x), before) {
		t.Fatalf("%s was turned to %s", short(before), short(x))
	}
}

// depthIs ends the test, if Depth(x) is not want, or x is turned.
func depthIs(t *testing.T, x api.Tree, want int) {
	t.Helper()
	before := bare(x)
	if got := value.Depth(x); got != want {
		t.Fatalf("Depth(%s): %d; want %d", short(x), got, want)
	}
	if !reflect.DeepEqual(bare(x), before) {
		t.Fatalf("Depth turned %s to %s", short(before), short(x))
	}
}

// sameIs ends the test, if Same of both, either way, is not want, or turns one.
func sameIs(t *testing.T, a, b api.Tree, want bool) {
	t.Helper()
	x, y := bare(a), bare(b)
	if value.Same(a, b) != want || value.Same(b, a) != want {
		t.Fatalf("Same(%s, %s): not %v", short(a), short(b), want)
	}
	if !reflect.DeepEqual(bare(a), x) || !reflect.DeepEqual(bare(b), y) {
		t.Fatalf("Same turned %s or %s", short(x), short(y))
	}
}

// P9.1: Check.

func TestCheckTakes(t *testing.T) {
	for _, x := range goodTrees() {
		checkIs(t, x, true)
	}
}

func TestCheckRefuses(t *testing.T) {
	for _, x := range wrongTrees() {
		checkIs(t, x, false)
	}
}

// What is wrong is told wherever it stands.
func TestCheckRefusesInside(t *testing.T) {
	for _, x := range wrongTrees() {
		if depthOf(x) > 3 {
			continue
		}
		for depth := range 4 {
			checkIs(t, wrap(x, depth), false)
			checkIs(t, wrap(msg(at(1, num(1)), at(7, msg(), msg(at(2, msg()), at(3, x)))), depth), false)
		}
	}
}

func TestCheckAgainstReference(t *testing.T) {
	r := rand.New(rand.NewSource(1))
	taken, refused := 0, 0
	for range 20000 {
		x := randomTree(r, 4)
		if !mayBe(x) {
			t.Fatalf("%s may be", short(x))
		}
		for range r.Intn(3) {
			spoil(r, &x)
		}
		want := mayBe(x)
		checkIs(t, x, want)
		if want {
			taken++
		} else {
			refused++
		}
	}
	if taken < 2000 || refused < 2000 {
		t.Fatalf("%d taken, %d refused: too few", taken, refused)
	}
}

// P9.1: Depth.

func TestDepth(t *testing.T) {
	for _, x := range []struct {
		t    api.Tree
		want int
	}{
		{api.Tree{}, 0}, {num(5), 0}, {str("a"), 0}, {api.Tree{Kind: 4}, 0}, {api.Tree{Kind: -3}, 0},
		{api.Tree{Kind: api.TreeNum, Entries: wrap(msg(), 3).Entries}, 0}, {api.Tree{Kind: api.TreeText, Entries: wrap(msg(), 3).Entries}, 0}, {api.Tree{Kind: 9, Entries: wrap(msg(), 300).Entries}, 0}, {api.Tree{Entries: wrap(msg(), 3).Entries}, 0},
		{msg(), 1}, {api.Tree{Kind: api.TreeMsg, N: 1, S: "a"}, 1}, {with(msg(), rawNum(1, 1), rawText(2, "\x03\x02\x02\x00")), 1},
		{msg(at(1)), 1}, {tags(1, 2), 1}, {tags(0, -1, 900), 1}, {msg(at(1, str("a"))), 1},
		{msg(at(1, api.Tree{Kind: api.TreeNum, Entries: wrap(msg(), 3).Entries})), 1},
		{msg(at(1, msg())), 2}, {msg(at(-1, msg(), num(1))), 2}, {msg(at(1, num(1)), at(2), at(3, str(""), msg()), at(3, num(1))), 2},
		{msg(at(1, wrap(msg(), 4)), at(2, wrap(msg(), 6)), at(3, wrap(msg(), 5))), 8},
		{msg(at(1, wrap(msg(), 4), wrap(msg(), 6), wrap(msg(), 5))), 8}, {msg(at(1, wrap(num(1), 6), wrap(msg(), 4))), 7},
		{wrap(msg(), 8), 9}, {wrap(msg(), 9), 10}, {wrap(msg(), 10), 11}, {wrap(num(1), 10), 10},
		{wrap(msg(), 98), 99}, {wrap(msg(), 99), 100}, {wrap(msg(), 100), 101}, {wrap(msg(), 101), 101}, {wrap(msg(), 1000), 101},
		{wrap(num(1), 99), 99}, {wrap(num(1), 100), 100}, {wrap(num(1), 101), 101}, {wrap(num(1), 102), 101},
		{msg(at(1, msg(), wrap(msg(), 98))), 100}, {msg(at(1, msg(), wrap(msg(), 99), msg())), 101},
	} {
		depthIs(t, x.t, x.want)
	}
	for n := range 130 {
		depthIs(t, wrap(msg(), n), min(n+1, 101))
		depthIs(t, wrap(str("a"), n), min(n, 101))
	}
}

func TestDepthAgainstReference(t *testing.T) {
	r := rand.New(rand.NewSource(2))
	for range 10000 {
		x := randomTree(r, 5)
		for range r.Intn(3) {
			spoil(r, &x)
		}
		depthIs(t, x, depthOf(x))
	}
}

// P9.1: Same.

func TestSame(t *testing.T) {
	l := append(goodTrees(), wrongTrees()...)
	for i, a := range l {
		sameIs(t, a, a, true)
		sameIs(t, a, bare(a), true)
		for _, b := range l[i:] {
			sameIs(t, a, b, equal(a, b))
		}
	}
}

// Trees that differ in one part alone are not the same.
func TestSameOnePart(t *testing.T) {
	whole := func() api.Tree {
		return api.Tree{Kind: 3, N: 1, S: "a", Entries: []api.Entry{at(1, num(1), num(2)), at(2, str("b"), msg(at(1, num(3))))}, Rest: []api.Raw{{Tag: 3, Wire: 1, N: 1, B: "c"}, {Tag: 4}}}
	}
	sameIs(t, whole(), whole(), true)
	for i, turn := range []func(x *api.Tree){
		func(x *api.Tree) { x.Kind = 2 },
		func(x *api.Tree) { x.Kind += 1 << 32 },
		func(x *api.Tree) { x.N = 2 },
		func(x *api.Tree) { x.N += 1 << 32 },
		func(x *api.Tree) { x.S = "" },
		func(x *api.Tree) { x.S = "b" },
		func(x *api.Tree) { x.S = "a\x00" },
		func(x *api.Tree) { x.Entries = nil },
		func(x *api.Tree) { x.Entries = x.Entries[:1] },
		func(x *api.Tree) { x.Entries = x.Entries[1:] },
		func(x *api.Tree) { x.Entries = append(x.Entries, api.Entry{}) },
		func(x *api.Tree) { slices.Reverse(x.Entries) },
		func(x *api.Tree) { x.Entries[0].Tag = 0 },
		func(x *api.Tree) { x.Entries[1].Tag = 3 },
		func(x *api.Tree) { x.Entries[0].Trees = nil },
		func(x *api.Tree) { x.Entries[0].Trees = x.Entries[0].Trees[:1] },
		func(x *api.Tree) { x.Entries[0].Trees = append(x.Entries[0].Trees, api.Tree{}) },
		func(x *api.Tree) { slices.Reverse(x.Entries[0].Trees) },
		func(x *api.Tree) { x.Entries[0].Trees[0].Kind = 2 },
		func(x *api.Tree) { x.Entries[0].Trees[1].N = 3 },
		func(x *api.Tree) { x.Entries[1].Trees[0].S = "B" },
		func(x *api.Tree) { x.Entries[1].Trees[0].Rest = []api.Raw{{}} },
		func(x *api.Tree) { x.Entries[1].Trees[0].Entries = []api.Entry{{}} },
		func(x *api.Tree) { x.Entries[1].Trees[1].Entries[0].Tag = 2 },
		func(x *api.Tree) { x.Entries[1].Trees[1].Entries[0].Trees[0].N = 4 },
		func(x *api.Tree) { x.Entries[1].Trees[1].Entries = nil },
		func(x *api.Tree) { x.Rest = nil },
		func(x *api.Tree) { x.Rest = x.Rest[:1] },
		func(x *api.Tree) { x.Rest = append(x.Rest, api.Raw{}) },
		func(x *api.Tree) { slices.Reverse(x.Rest) },
		func(x *api.Tree) { x.Rest[0].Tag = 4 },
		func(x *api.Tree) { x.Rest[0].Wire = 0 },
		func(x *api.Tree) { x.Rest[1].N = 1 },
		func(x *api.Tree) { x.Rest[0].B = "" },
	} {
		x := whole()
		turn(&x)
		if equal(x, whole()) {
			t.Fatalf("%d: nothing is turned", i)
		}
		sameIs(t, x, whole(), false)
		sameIs(t, msg(at(1, x)), msg(at(1, whole())), false)
		sameIs(t, wrap(msg(at(1, num(1)), at(2, whole(), x, whole())), 3), wrap(msg(at(1, num(1)), at(2, whole(), whole(), whole())), 3), false)
		sameIs(t, x, x, true)
	}
}

func TestSameNilAndEmpty(t *testing.T) {
	empty := api.Tree{Entries: []api.Entry{}, Rest: []api.Raw{}}
	sameIs(t, empty, api.Tree{}, true)
	empty.Kind = api.TreeMsg
	sameIs(t, empty, msg(), true)
	sameIs(t, msg(at(1, empty, msg())), msg(at(1, msg(), empty)), true)
	sameIs(t, msg(at(1)), api.Tree{Kind: api.TreeMsg, Entries: []api.Entry{{Tag: 1, Trees: []api.Tree{}}}}, true)
	sameIs(t, msg(at(1)), msg(), false)
	sameIs(t, msg(api.Entry{}), msg(), false)
	sameIs(t, with(msg(), api.Raw{}), msg(), false)
}

func TestSameAgainstReference(t *testing.T) {
	r := rand.New(rand.NewSource(3))
	same := 0
	for range 20000 {
		a := randomTree(r, 4)
		b := bare(a)
		for range r.Intn(3) {
			spoil(r, &b)
		}
		want := equal(a, b)
		sameIs(t, a, b, want)
		if want {
			same++
		}
	}
	if same < 2000 || same > 18000 {
		t.Fatalf("%d of 20000 are the same", same)
	}
}

// R1: every call ends.

// A tree in whose messages one stands twice, each, is small in memory, however many ways lead down in it.
func TestSharedTreesEnd(t *testing.T) {
	for _, n := range []int{50, 99, 100, 101, 300} {
		if got := value.Depth(shared(n, 2)); got != min(n, 101) {
			t.Fatalf("Depth of one %d deep: %d", n, got)
		}
		if value.Check(shared(n, 2)) {
			t.Fatalf("Check takes one %d deep", n)
		}
		if !value.Same(shared(n, 2), shared(n, 2)) || value.Same(shared(n, 2), shared(n+1, 2)) || value.Same(shared(n, 2), shared(n, 3)) {
			t.Fatalf("Same of one %d deep", n)
		}
	}
	if !value.Check(shared(api.MaxDepth, api.MaxItems)) || value.Check(shared(api.MaxDepth, api.MaxItems+1)) || value.Check(shared(api.MaxDepth+1, api.MaxItems)) {
		t.Fatal("Check of one with as many trees as may be")
	}
}

// A list can be made to stand in itself: such a tree has no end.
func TestRingsEnd(t *testing.T) {
	for _, x := range []api.Tree{ring(), ring(msg()), ring(msg(), ring(), wrap(num(1), 3)), msg(at(1, num(1)), at(2, ring(), ring())), wrap(ring(), 5)} {
		if value.Depth(x) != 101 || value.Check(x) {
			t.Fatal("a tree without an end")
		}
		if v, ok := value.Of(x); ok || v != (value.Value{}) {
			t.Fatal("Of takes a tree without an end")
		}
		if !value.Same(x, x) || value.Same(x, msg()) || value.Same(wrap(msg(), 50), x) {
			t.Fatal("Same of a tree without an end")
		}
	}
	a, b := ring(msg(), num(1)), ring(msg(), num(1))
	if !value.Same(a, b) || !value.Same(a, b.Entries[0].Trees[2]) || !value.Same(msg(at(1, msg(), num(1), a)), b) {
		t.Fatal("two that are the same, however far they are followed")
	}
	if value.Same(a, ring(msg(), num(2))) || value.Same(a, msg(at(1, msg(), num(2), a))) || value.Same(ring(), ring(msg())) {
		t.Fatal("two that are not the same")
	}
}

// Depths at which a call within a call for each level would have no room any more.
func TestDeepTreesEnd(t *testing.T) {
	defer debug.SetMaxStack(debug.SetMaxStack(1 << 20))
	const deep = 200000
	a, b := wrap(num(1), deep), wrap(num(1), deep)
	if !value.Same(a, b) || value.Same(a, wrap(num(2), deep)) || value.Same(a, wrap(num(1), deep+1)) {
		t.Fatal("Same")
	}
	if value.Depth(a) != 101 || value.Check(a) {
		t.Fatal("Depth, Check")
	}
	if v, ok := value.Of(a); ok || v != (value.Value{}) {
		t.Fatal("Of")
	}
}

// Lists that begin at one place in memory, and are not of one length, are two.
func TestListsOfOneBeginning(t *testing.T) {
	behind := func(x api.Tree) api.Tree {
		l := []api.Entry{at(1, num(1)), at(2, x)}
		return msg(at(1, msg(l[:1]...), msg(l...)))
	}
	depthIs(t, behind(wrap(msg(), 5)), 8)
	checkIs(t, behind(wrap(msg(), 5)), true)
	checkIs(t, behind(wrap(msg(), 8)), false)
	checkIs(t, behind(api.Tree{}), false)
	checkIs(t, behind(tags(1, 1)), false)
	sameIs(t, behind(num(1)), behind(num(1)), true)
	sameIs(t, behind(num(1)), behind(num(2)), false)
	sameIs(t, behind(tags(1)), behind(tags(2)), false)
}
