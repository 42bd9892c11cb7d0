package valid_test

import (
	"math"
	"math/rand"
	"reflect"
	"slices"
	"testing"

	"concordat/api"
	"concordat/valid"
)

// P10.1: Number.

func TestNumberAtItsEnds(t *testing.T) {
	ends := []struct{ kind, least, greatest int }{
		{api.Int32, -1 << 31, 1<<31 - 1}, {api.Int64, -1 << 63, 1<<63 - 1}, {api.Bool, 0, 1}, {api.Enum, 0, 1<<31 - 1},
	}
	for _, x := range ends {
		y := api.Type{Kind: x.kind}
		for _, n := range []int{x.least, x.greatest, 0, 1, x.least + 1, x.greatest - 1} {
			if !valid.Number(y, n) {
				t.Errorf("kind %d: %d is refused", x.kind, n)
			}
		}
		if x.least > math.MinInt && valid.Number(y, x.least-1) || x.greatest < math.MaxInt && valid.Number(y, x.greatest+1) {
			t.Errorf("kind %d: one beyond its ends is taken", x.kind)
		}
	}
}

func TestNumberOfEachKind(t *testing.T) {
	numbers := []int{0, 1, 2, -1, -2, 9, 1<<31 - 2, 1<<31 - 1, 1 << 31, -1<<31 + 1, -1 << 31, -1<<31 - 1, 1<<32 - 1, 1 << 32, 1<<32 + 1, -1 << 32, 1 << 40, math.MaxInt, math.MinInt}
	for _, kind := range []int{-1, 0, 1, 2, 3, 4, 5, 6, 7, 8, 9, 1<<32 + 1, 1<<32 + 2, -2, math.MaxInt, math.MinInt} {
		for _, n := range numbers {
			// The name says nothing of the number.
			for _, name := range []string{"", "e", "\xff"} {
				if got := valid.Number(api.Type{Kind: kind, Name: name}, n); got != numberMayBe(kind, n) {
					t.Errorf("Number(%d %q, %d): %v", kind, name, n, got)
				}
			}
		}
	}
	for kind := range 10 {
		for n := -300; n <= 300; n++ {
			if got := valid.Number(api.Type{Kind: kind}, n); got != numberMayBe(kind, n) {
				t.Errorf("Number(%d, %d): %v", kind, n, got)
			}
		}
	}
}

// P10.1: Zero.

func TestZero(t *testing.T) {
	for _, kind := range []int{-1, 0, 1, 2, 3, 4, 7, 1<<32 + 1, math.MaxInt, math.MinInt} {
		three := kind >= 1 && kind <= 3
		for _, x := range []api.Tree{{Kind: kind}, {Kind: kind, Entries: []api.Entry{}, Rest: []api.Raw{}}, {Kind: kind, Entries: make([]api.Entry, 0, 3)}} {
			if valid.Zero(x) != three {
				t.Errorf("Zero(%s): %v", short(x), !three)
			}
		}
		// One part too much, whatever it is.
		for _, x := range []api.Tree{
			{Kind: kind, N: 1}, {Kind: kind, N: -1}, {Kind: kind, N: 1 << 32}, {Kind: kind, N: math.MinInt},
			{Kind: kind, S: "a"}, {Kind: kind, S: "\x00"}, {Kind: kind, S: "\xff"},
			{Kind: kind, Entries: make([]api.Entry, 1)}, {Kind: kind, Entries: []api.Entry{at(1, num(0))}}, {Kind: kind, Entries: []api.Entry{at(1, msg())}},
			{Kind: kind, Rest: make([]api.Raw, 1)}, {Kind: kind, Rest: []api.Raw{rawText(9, "")}},
		} {
			if valid.Zero(x) {
				t.Errorf("Zero(%s)", short(x))
			}
		}
	}
}

// P10.3: Get.

// getIs ends the test, if Get does not answer want and ok, or turns what is handed in.
func getIs(t *testing.T, s api.Schema, name string, x api.Tree, tag int, want []api.Tree, ok bool) {
	t.Helper()
	before := plain(x)
	got, there := valid.Get(s, name, x, tag)
	if there != ok || !reflect.DeepEqual(plains(got), plains(want)) {
		t.Fatalf("Get(%q, %s, %d): %s, %v; want %s, %v", name, short(x), tag, short(got), there, short(want), ok)
	}
	if !reflect.DeepEqual(plain(x), before) {
		t.Fatalf("Get turned %s to %s", short(before), short(x))
	}
}

func TestGetWithEntry(t *testing.T) {
	s := schema(t, all)
	inner := with(msg(at(11, num(4)), at(17, with(msg(), rawText(2, "b")))), rawNum(300, 7))
	x := with(msg(at(11, num(5)), at(14, str("a")), at(21, num(0)), at(24, str("")), at(27, msg()), at(31, num(1), num(0), num(1)), at(34, str("b"), str("")), at(37, inner, msg(), inner), at(47, inner)), rawNum(2, 1))
	for _, e := range x.Entries {
		getIs(t, s, "m", x, e.Tag, e.Trees, true)
	}
	many := make([]api.Tree, api.MaxItems)
	for i := range many {
		many[i] = num(i)
	}
	getIs(t, s, "m", msg(at(31, many...)), 31, many, true)
}

func TestGetWithoutEntry(t *testing.T) {
	s := schema(t, all)
	for _, x := range []api.Tree{msg(), with(msg(), rawNum(300, 1)), msg(at(41, num(1))), {Kind: api.TreeMsg, Entries: []api.Entry{}, Rest: []api.Raw{}}} {
		for _, one := range []struct {
			tag  int
			want api.Tree
		}{{11, num(0)}, {12, num(0)}, {13, num(0)}, {14, str("")}, {15, str("")}, {16, num(0)}, {17, msg()}, {47, msg()}} {
			getIs(t, s, "m", x, one.tag, []api.Tree{one.want}, true)
		}
		for _, tag := range []int{21, 24, 26, 27, 31, 34, 35, 37} {
			getIs(t, s, "m", x, tag, nil, true)
		}
		for _, tag := range []int{22, 23, 25, 27, 32, 33, 36, 37} {
			getIs(t, s, "n", x, tag, nil, true)
		}
		getIs(t, s, "n", x, 1, []api.Tree{str("")}, true)
	}
}

func TestGetRefuses(t *testing.T) {
	s := schema(t, all)
	x := with(msg(at(1, num(1)), at(2, num(1)), at(11, num(5)), at(22, num(1)), at(41, num(1)), at(500, num(1))), rawNum(3, 1))
	// No such field: unknown, reserved, another message's, in Rest alone, no tag at all.
	for _, tag := range []int{1, 2, 3, 10, 18, 22, 36, 41, 46, 48, 500, 501, 0, -1, -11, 1<<32 + 11, math.MaxInt, math.MinInt} {
		getIs(t, s, "m", x, tag, nil, false)
	}
	for _, name := range []string{"e", "f", "s", "", "M", "m ", "a11", "\xff", "zero"} {
		getIs(t, s, name, x, 11, nil, false)
	}
	getIs(t, s, "empty", x, 11, nil, false)
	// No message, even if it has entries.
	for _, kind := range []int{-3, 0, 1, 2, 4, 1<<32 + 3} {
		getIs(t, s, "m", api.Tree{Kind: kind}, 11, nil, false)
		getIs(t, s, "m", api.Tree{Kind: kind, Entries: x.Entries}, 11, nil, false)
	}
	getIs(t, api.Schema{}, "m", x, 11, nil, false)
	getIs(t, api.Schema{}, "", x, 0, nil, false)
}

// Get asks neither check nor value's Check: schemas and trees that may not be are taken as they stand.
func TestGetOfWhatMayNotBe(t *testing.T) {
	field := func(tag, label, kind int) api.Field {
		return api.Field{Tag: tag, Label: label, Type: api.Type{Kind: kind}}
	}
	s := api.Schema{Messages: []api.Message{
		{Name: "x y", Fields: []api.Field{field(0, api.One, api.Int32), field(-7, api.One, api.Msg), field(3, api.One, api.Text), field(3, api.Optional, api.Msg), field(4, 9, api.Int32), field(5, api.One, 8), field(6, api.One, 0)}},
		{Name: "x y", Fields: []api.Field{field(9, api.One, api.Int32)}},
	}}
	for _, x := range []struct {
		tag  int
		want []api.Tree
		ok   bool
	}{{0, []api.Tree{num(0)}, true}, {-7, []api.Tree{msg()}, true}, {3, []api.Tree{str("")}, true}, {4, nil, true}, {5, nil, true}, {6, nil, true}, {9, nil, false}} {
		getIs(t, s, "x y", msg(), x.tag, x.want, x.ok)
	}
	odd := api.Tree{Kind: 9, N: 1, S: "a", Entries: []api.Entry{{}}, Rest: []api.Raw{{}}}
	tree := api.Tree{Kind: api.TreeMsg, N: 1, S: "a", Entries: []api.Entry{at(-7, odd, num(1)), at(0), at(3, str("first")), at(3, str("second"))}, Rest: []api.Raw{{Tag: 3}}}
	getIs(t, s, "x y", tree, -7, []api.Tree{odd, num(1)}, true)
	getIs(t, s, "x y", tree, 0, nil, true) // there is an entry, and nothing in it
	getIs(t, s, "x y", tree, 3, []api.Tree{str("first")}, true)
	many := slices.Repeat([]api.Tree{num(7)}, 1000)
	getIs(t, s, "x y", msg(at(3, many...)), 3, many, true)
}

func TestGetAgainstReference(t *testing.T) {
	r := rand.New(rand.NewSource(1))
	s := schema(t, all)
	with, without := 0, 0
	for range 3000 {
		name := pick(r, "m", "n", "empty")
		x := fitting(r, s, name, 3)
		if r.Intn(3) == 0 {
			spoil(r, &x)
		}
		for _, tag := range []int{1, 11, 12, 13, 14, 15, 16, 17, 21, 22, 23, 24, 25, 26, 27, 31, 32, 33, 34, 35, 36, 37, 41, 47, 300, 500} {
			want, ok := has(s, name, x, tag)
			getIs(t, s, name, x, tag, want, ok)
			if ok && slices.ContainsFunc(x.Entries, func(e api.Entry) bool { return e.Tag == tag }) {
				with++
			} else if ok {
				without++
			}
		}
	}
	if with < 3000 || without < 3000 {
		t.Fatalf("%d with an entry, %d without: too few", with, without)
	}
}
