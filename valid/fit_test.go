package valid_test

import (
	"math/rand"
	"reflect"
	"slices"
	"strings"
	"testing"

	"concordat/api"
	"concordat/check"
	"concordat/valid"
)

// validIs ends the test, if Valid does not answer want, or turns what is handed in.
func validIs(t *testing.T, s api.Schema, name string, x api.Tree, want api.Errno) {
	t.Helper()
	before := plain(x)
	if got := valid.Valid(s, name, x); got != want {
		t.Fatalf("Valid(%q, %s): %v; want %v", name, short(x), got, want)
	}
	if !reflect.DeepEqual(plain(x), before) {
		t.Fatalf("Valid turned %s to %s", short(before), short(x))
	}
}

// P10.2: the chapter's example.
func TestExample(t *testing.T) {
	s := schema(t, "schema s; message m { int32 a = 1; }")
	validIs(t, s, "m", msg(at(1, num(0))), api.ErrEmpty)
	validIs(t, s, "m", msg(at(1, num(5))), api.OK)
	validIs(t, s, "m", msg(), api.OK)
}

// P10.2: what fits.
func TestValidTakes(t *testing.T) {
	s := schema(t, all)
	for _, x := range []api.Tree{
		msg(), {Kind: api.TreeMsg, Entries: []api.Entry{}, Rest: []api.Raw{}},
		msg(at(11, num(-1<<31)), at(12, num(-1<<63)), at(13, num(1)), at(14, str("größe")), at(15, str("\xff")), at(16, num(1<<31-1)), at(17, msg(at(11, num(1)))), at(21, num(0)), at(24, str("")), at(26, num(0)), at(27, msg()), at(31, num(0), num(1<<31-1)), at(34, str(""), str("a"), str("")), at(35, str("\x80"), str("")), at(37, msg(), msg(at(11, num(1)))), at(47, msg(at(1, str("a"))))),
		msg(at(16, num(5))), // a number of an enumeration need not have a name
		msg(at(15, str(strings.Repeat("a", 1<<14)))),
		msg(at(31, slices.Repeat([]api.Tree{num(0)}, api.MaxItems)...)),
		// Rest makes a One message more than its zero.
		msg(at(17, with(msg(), rawNum(300, 0)))),
		// Rest may have any tag that is no field's: reserved ones, those of other messages, those of fields further in.
		with(msg(), rawNum(1, 1), rawText(2, ""), rawNum(41, 0), rawNum(41, 0), rawNum(500, 0)), with(msg(), rawNum(22, 1), rawNum(36, 0)),
		with(msg(at(47, with(msg(at(1, str("a"))), rawNum(11, 1)))), rawNum(22, 0)),
	} {
		validIs(t, s, "m", x, api.OK)
	}
	for _, x := range []api.Tree{
		msg(), with(msg(), rawNum(11, 1), rawNum(41, 0)), msg(at(22, num(0)), at(23, num(0)), at(25, str("")), at(27, msg()), at(32, num(0), num(1<<40)), at(33, num(1), num(0)), at(36, num(0), num(9)), at(37, msg(), msg())),
		msg(at(47, msg(at(47, msg(at(1, str("a"))))))),
	} {
		validIs(t, s, "n", x, api.OK)
	}
	validIs(t, s, "empty", msg(), api.OK)
	validIs(t, s, "empty", with(msg(), rawNum(1, 1), rawText(500, "a")), api.OK)
	// A message in itself, as deep as a tree may be.
	validIs(t, s, "m", wrap(msg(at(11, num(1))), 37, api.MaxDepth-1), api.OK)
	validIs(t, s, "m", wrap(msg(at(11, num(1))), 17, api.MaxDepth-1), api.OK)
	validIs(t, s, "m", wrap(msg(), 27, api.MaxDepth-1), api.OK)
}

// P10.2: a schema that check does not say OK of; a name that is no message's.
func TestValidRefusesSchema(t *testing.T) {
	good := schema(t, all)
	turns := []func(s *api.Schema){
		func(s *api.Schema) { *s = api.Schema{} },
		func(s *api.Schema) { s.Name = "" },
		func(s *api.Schema) { s.Messages = nil },
		func(s *api.Schema) { s.Messages[2].Name = "m" },
		func(s *api.Schema) { s.Messages[0].Fields[1].Tag = 11 },
		func(s *api.Schema) { s.Messages[0].Fields[0].Label = 0 },
		func(s *api.Schema) { s.Messages[1].Fields[3].Type.Name = "x" },
		func(s *api.Schema) { s.Messages[0].Reserved[0] = 0 },
		func(s *api.Schema) { s.Enums[0].Values[0].N = 1 },
		func(s *api.Schema) { s.Methods[0].Out = "e" },
	}
	for _, turn := range turns {
		s := schema(t, all)
		turn(&s)
		if check.Check(s) == api.OK {
			t.Fatal("it may be")
		}
		// This comes ahead of all else.
		for _, name := range []string{"m", "empty", "none", ""} {
			for _, x := range []api.Tree{msg(), num(1), {}, msg(at(11, num(0)))} {
				validIs(t, s, name, x, api.ErrArg)
			}
		}
	}
	for _, name := range []string{"", "e", "f", "s", "none", "M", "m ", "a11", "zero", "\xff"} {
		for _, x := range []api.Tree{msg(), num(1), {}, msg(at(11, num(0))), msg(at(0, num(1)))} {
			validIs(t, good, name, x, api.ErrNone)
		}
	}
}

// P10.2: a tree that value's Check refuses, and one that is no message.
func TestValidRefusesTree(t *testing.T) {
	s := schema(t, all)
	for _, x := range []api.Tree{
		{}, num(0), num(1), str(""), str("a"), {Kind: 4}, {Kind: -3}, {Kind: 1<<32 + 3}, {Kind: api.TreeMsg, N: 1}, {Kind: api.TreeMsg, S: "a"},
		msg(at(0, num(1))), msg(at(501, num(1))), msg(at(12, num(1)), at(11, num(1))), msg(at(11, num(1)), at(11, num(1))), msg(at(11)), msg(at(31, num(1), str(""))),
		msg(at(31, slices.Repeat([]api.Tree{num(1)}, api.MaxItems+1)...)), msg(at(11, api.Tree{Kind: api.TreeNum, N: 1, S: "a"})),
		with(msg(), rawNum(0, 1)), with(msg(), rawNum(300, 0), rawNum(2, 0)), with(msg(at(11, num(1))), rawNum(11, 0)), with(msg(), api.Raw{Tag: 2, Wire: 2}),
		wrap(msg(), 27, api.MaxDepth), wrap(msg(at(11, num(1))), 37, api.MaxDepth), wrap(msg(at(0, num(1))), 27, 3),
		// What value's Check says comes ahead of all that stands ahead in the tree.
		msg(at(9, num(1)), at(501, num(1))), msg(at(11, num(0)), at(31)), msg(at(11, str("")), at(37, api.Tree{})), with(msg(at(11, num(0))), rawNum(501, 0)),
		ring(37), ring(37, msg()), msg(at(11, num(0)), at(37, ring(37))),
	} {
		got := valid.Valid(s, "m", x)
		if got != api.ErrArg {
			t.Errorf("%v", got)
		}
	}
}

// P10.2: entries.
func TestValidRefusesEntries(t *testing.T) {
	s := schema(t, all)
	for _, x := range []struct {
		t    api.Tree
		want api.Errno
	}{
		// Unknown, reserved, another message's.
		{msg(at(2, num(1))), api.ErrTag}, {msg(at(11, num(1)), at(48, num(1))), api.ErrTag}, {msg(at(1, num(1))), api.ErrTag}, {msg(at(41, num(1))), api.ErrTag}, {msg(at(500, msg())), api.ErrTag}, {msg(at(22, num(1))), api.ErrTag},
		{msg(at(11, num(1), num(2))), api.ErrBig}, {msg(at(21, num(1), num(1))), api.ErrBig}, {msg(at(24, str(""), str(""))), api.ErrBig}, {msg(at(17, msg(at(11, num(1))), msg(at(11, num(1))))), api.ErrBig}, {msg(at(27, msg(), msg())), api.ErrBig}, {msg(at(21, slices.Repeat([]api.Tree{num(1)}, api.MaxItems)...)), api.ErrBig},
		{msg(at(11, num(1<<31))), api.ErrRange}, {msg(at(11, num(-1<<31-1))), api.ErrRange}, {msg(at(13, num(2))), api.ErrRange}, {msg(at(13, num(-1))), api.ErrRange}, {msg(at(16, num(-1))), api.ErrRange}, {msg(at(16, num(1<<31))), api.ErrRange}, {msg(at(21, num(1<<40))), api.ErrRange}, {msg(at(26, num(-5))), api.ErrRange}, {msg(at(31, num(1), num(2), num(1<<31))), api.ErrRange},
		{msg(at(14, str("\xff"))), api.ErrText}, {msg(at(24, str("a\xc3"))), api.ErrText}, {msg(at(34, str("a"), str("\xed\xa0\x80"))), api.ErrText}, {msg(at(14, str("\xc0\x80"))), api.ErrText},
		{msg(at(15, str("\xff")), at(35, str("a\xc3"), str("\xed\xa0\x80"), str("\xc0\x80"))), api.OK},
		{msg(at(11, num(0))), api.ErrEmpty}, {msg(at(12, num(0))), api.ErrEmpty}, {msg(at(13, num(0))), api.ErrEmpty}, {msg(at(14, str(""))), api.ErrEmpty}, {msg(at(15, str(""))), api.ErrEmpty}, {msg(at(16, num(0))), api.ErrEmpty}, {msg(at(17, msg())), api.ErrEmpty}, {msg(at(47, msg())), api.ErrEmpty},
		{msg(at(17, api.Tree{Kind: api.TreeMsg, Entries: []api.Entry{}, Rest: []api.Raw{}})), api.ErrEmpty},
	} {
		validIs(t, s, "m", x.t, x.want)
		// And wherever the message stands.
		validIs(t, s, "m", msg(at(37, msg(), x.t)), x.want)
		validIs(t, s, "n", msg(at(1, str("a")), at(47, msg(at(11, num(1)), at(27, x.t)))), x.want)
		validIs(t, s, "m", wrap(x.t, 37, api.MaxDepth-2), x.want)
	}
	// One more in each of the other message's.
	for _, x := range []api.Entry{at(23, num(2)), at(33, num(0), num(2)), at(33, num(-1)), at(36, num(0), num(-1))} {
		validIs(t, s, "n", msg(x), api.ErrRange)
	}
}

// P10.2: each kind of field with each kind of tree.
func TestEachKindWithEachTree(t *testing.T) {
	s := schema(t, all)
	trees := []api.Tree{num(1), str("a"), msg(at(1, str("a")))}
	for _, m := range s.Messages[:2] {
		for _, f := range m.Fields {
			for _, x := range append(trees, msg(at(11, num(1)))) {
				want := api.OK
				if x.Kind != treeKind(f.Type.Kind) {
					want = api.ErrType
				} else if x.Kind == api.TreeMsg && (f.Type.Name == "n") != (x.Entries[0].Tag == 1) {
					want = api.ErrTag
				}
				validIs(t, s, m.Name, msg(at(f.Tag, x)), want)
			}
			// A zero of another kind is of another kind.
			for kind := 1; kind <= 3; kind++ {
				want := api.OK
				if kind != treeKind(f.Type.Kind) {
					want = api.ErrType
				} else if f.Label == api.One {
					want = api.ErrEmpty
				}
				validIs(t, s, m.Name, msg(at(f.Tag, api.Tree{Kind: kind})), want)
			}
		}
	}
}

// P10.2: a field's tag in Rest.
func TestValidRefusesRest(t *testing.T) {
	s := schema(t, all)
	for _, tag := range []int{11, 17, 21, 27, 31, 37, 47} {
		for _, r := range []api.Raw{rawNum(tag, 0), rawNum(tag, 1), rawText(tag, ""), rawText(tag, "a")} {
			for _, x := range []api.Tree{with(msg(), r), with(msg(), rawNum(1, 1), r, rawNum(300, 1)), with(msg(at(35, str("a"))), r)} {
				validIs(t, s, "m", x, api.ErrTag)
				validIs(t, s, "m", msg(at(17, x)), api.ErrTag)
				validIs(t, s, "m", msg(at(37, msg(), msg(at(27, x)))), api.ErrTag)
				validIs(t, s, "n", with(msg(at(47, x)), rawNum(300, 1)), api.ErrTag)
			}
		}
	}
	validIs(t, s, "n", with(msg(), rawNum(1, 0)), api.ErrTag)
	validIs(t, s, "m", with(msg(), rawNum(1, 0)), api.OK)
}

// P10.2: which of two errors is told.
func TestFirstError(t *testing.T) {
	s := schema(t, all)
	for _, x := range []struct {
		t    api.Tree
		want api.Errno
	}{
		// Entry by entry, whatever they have.
		{msg(at(2, num(1)), at(11, num(0))), api.ErrTag}, {msg(at(11, num(0)), at(48, num(1))), api.ErrEmpty}, {msg(at(11, str("a")), at(12, num(0))), api.ErrType}, {msg(at(12, num(0)), at(13, str("a"))), api.ErrEmpty}, {msg(at(14, str("\xff")), at(16, num(-1))), api.ErrText}, {msg(at(13, num(2)), at(14, str("\xff"))), api.ErrRange}, {msg(at(13, num(2)), at(21, num(1), num(1))), api.ErrRange}, {msg(at(21, num(1), num(1)), at(26, num(-1))), api.ErrBig},
		// The tag, then how many, then the trees.
		{msg(at(2, num(1), num(1))), api.ErrTag}, {msg(at(11, str(""), str(""))), api.ErrBig}, {msg(at(11, num(0), num(0))), api.ErrBig}, {msg(at(24, str("\xff"), str("\xff"))), api.ErrBig}, {msg(at(27, msg(at(2, num(1))), msg())), api.ErrBig}, {msg(at(13, num(2), num(2))), api.ErrBig},
		// Tree by tree.
		{msg(at(37, msg(at(11, num(0))), msg(at(11, str(""))))), api.ErrEmpty}, {msg(at(37, msg(at(11, str(""))), msg(at(11, num(0))))), api.ErrType}, {msg(at(37, msg(), msg(at(13, num(2))), msg(at(2, num(2))))), api.ErrRange}, {msg(at(37, with(msg(), rawNum(11, 0)), msg(at(11, num(0))))), api.ErrTag}, {msg(at(37, msg(at(11, num(0))), with(msg(), rawNum(11, 0)))), api.ErrEmpty},
		// Of another kind ahead of all that it is, too.
		{msg(at(13, str("\xff"))), api.ErrType}, {msg(at(14, num(7))), api.ErrType}, {msg(at(14, num(0))), api.ErrType}, {msg(at(11, msg(at(2, num(1))))), api.ErrType}, {msg(at(14, with(msg(), rawNum(11, 0)))), api.ErrType},
		// What is in a message ahead of what follows it, its Rest, too.
		{msg(at(17, msg(at(11, num(0)))), at(48, num(1))), api.ErrEmpty}, {msg(at(17, with(msg(), rawNum(11, 0))), at(21, str(""))), api.ErrTag}, {msg(at(17, msg()), at(21, str(""))), api.ErrEmpty},
		// Rest behind all entries, in each message.
		{with(msg(at(12, num(0))), rawNum(11, 0)), api.ErrEmpty}, {with(msg(at(35, num(0))), rawNum(11, 0)), api.ErrType}, {with(msg(at(37, msg(at(14, str("\xff"))))), rawNum(11, 0)), api.ErrText}, {msg(at(37, with(msg(at(13, num(5))), rawNum(11, 0)))), api.ErrRange},
	} {
		validIs(t, s, "m", x.t, x.want)
	}
}

func TestValidAgainstReference(t *testing.T) {
	r := rand.New(rand.NewSource(2))
	s := schema(t, all)
	told := map[api.Errno]int{}
	for range 10000 {
		name := pick(r, "m", "n", "m", "n", "empty", "e")
		x := fitting(r, s, name, 3)
		if name != "e" {
			validIs(t, s, name, x, api.OK)
		}
		for range r.Intn(3) {
			spoil(r, &x)
		}
		want := fits(s, name, x)
		validIs(t, s, name, x, want)
		told[want]++
	}
	for _, e := range []api.Errno{api.OK, api.ErrArg, api.ErrNone, api.ErrTag, api.ErrBig, api.ErrType, api.ErrRange, api.ErrText, api.ErrEmpty} {
		if told[e] < 100 {
			t.Errorf("%v: %d times alone", e, told[e])
		}
	}
}

// R1: a tree in whose messages one stands 64 times, each, is small in memory, however many ways lead down in it.
func TestValidOfSharedTreesEnds(t *testing.T) {
	s := schema(t, all)
	for _, x := range []struct {
		last api.Tree
		want api.Errno
	}{
		{msg(), api.OK}, {with(msg(at(11, num(1))), rawNum(300, 1)), api.OK}, {msg(at(11, num(0))), api.ErrEmpty}, {msg(at(2, num(1))), api.ErrTag}, {with(msg(), rawNum(11, 1)), api.ErrTag}, {msg(at(14, str("\xff"))), api.ErrText},
	} {
		tree := shared(x.last, 37, api.MaxDepth-1, api.MaxItems)
		if got := valid.Valid(s, "m", tree); got != x.want {
			t.Fatalf("%s below: %v", short(x.last), got)
		}
	}
	if got := valid.Valid(s, "m", shared(msg(), 37, api.MaxDepth, api.MaxItems)); got != api.ErrArg {
		t.Fatalf("too deep: %v", got)
	}
}

// What is one in memory may be one of one message, and not of another; lists that begin at one place, and are not of one length, are two; so are messages with one list and another rest.
func TestValidOfOneMemory(t *testing.T) {
	s := schema(t, all)
	for _, one := range []api.Tree{msg(at(37, msg())), msg(at(11, num(1))), msg(at(1, str("a"))), with(msg(), rawNum(11, 1)), with(msg(), rawNum(22, 1))} {
		for _, x := range []api.Tree{msg(at(37, one, one), at(47, one)), msg(at(17, one), at(47, one)), msg(at(37, msg(at(47, one)), one))} {
			validIs(t, s, "m", x, fits(s, "m", x))
			validIs(t, s, "n", msg(at(37, one), at(47, x)), fits(s, "n", msg(at(37, one), at(47, x))))
		}
	}
	l := []api.Entry{at(11, num(1)), at(12, num(0))}
	validIs(t, s, "m", msg(at(37, msg(l[:1]...), msg(l...))), api.ErrEmpty)
	validIs(t, s, "m", msg(at(37, msg(l[:1]...), msg(l[:1]...))), api.OK)
	validIs(t, s, "m", msg(at(37, msg(l[:1]...), with(msg(l[:1]...), rawNum(12, 0)))), api.ErrTag)
	rest := []api.Raw{rawNum(2, 0), rawNum(11, 0)}
	validIs(t, s, "m", msg(at(37, with(msg(), rest[:1]...), with(msg(), rest...))), api.ErrTag)
	validIs(t, s, "m", msg(at(37, with(msg(), rest[:1]...), with(msg(), rest[:1]...))), api.OK)
}

// R3, R4: neither the schema is turned, nor does a call leave something for the next one.
func TestValidKeepsNothing(t *testing.T) {
	s, whole := schema(t, all), schema(t, all)
	x := msg(at(37, msg(at(11, num(1)))))
	for range 3 {
		validIs(t, s, "m", x, api.OK)
		x.Entries[0].Trees[0].Entries[0].Trees[0].N = 0
		validIs(t, s, "m", x, api.ErrEmpty)
		x.Entries[0].Trees[0].Entries[0].Trees[0].N = 1
		s.Messages[0].Fields[0].Tag = 10
		validIs(t, s, "m", x, api.ErrTag)
		s.Messages[0].Fields[0].Tag = 11
	}
	valid.Get(s, "m", x, 37)
	if !reflect.DeepEqual(s, whole) {
		t.Fatal("the schema was turned")
	}
}
