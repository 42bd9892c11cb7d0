package project_test

import (
	"math"
	"math/rand"
	"reflect"
	"slices"
	"strings"
	"testing"

	"concordat/api"
	"concordat/check"
	"concordat/project"
	"concordat/valid"
	"concordat/value"
)

// P13.1: Clamp.
func TestClamp(t *testing.T) {
	for _, x := range []struct{ n, want int }{
		{0, 0}, {1, 1}, {-1, -1}, {-7, -7}, {1<<31 - 1, 1<<31 - 1}, {-1 << 31, -1 << 31}, {1<<31 - 2, 1<<31 - 2}, {-1<<31 + 1, -1<<31 + 1},
		{1 << 31, 1<<31 - 1}, {-1<<31 - 1, -1 << 31}, {1 << 32, 1<<31 - 1}, {-1 << 32, -1 << 31}, {1<<32 + 5, 1<<31 - 1}, {1<<32 - 1, 1<<31 - 1}, {-1<<32 + 1, -1 << 31},
		{1 << 40, 1<<31 - 1}, {-1 << 40, -1 << 31}, {math.MaxInt, 1<<31 - 1}, {math.MinInt, -1 << 31}, {math.MaxInt - 1, 1<<31 - 1}, {math.MinInt + 1, -1 << 31},
	} {
		if got := project.Clamp(x.n); got != x.want {
			t.Errorf("Clamp(%d): %d; want %d", x.n, got, x.want)
		}
	}
	for bit := range 64 {
		for near := -3; near <= 3; near++ {
			for _, n := range []int{1<<bit + near, -1<<bit + near, near} {
				if got := project.Clamp(n); got != cut(n) || project.Clamp(got) != got {
					t.Errorf("Clamp(%d): %d; want %d", n, got, cut(n))
				}
			}
		}
	}
}

// sees ends the test, if Project does not answer want, if something of P13.3 does not hold of that, or if what is handed in is turned.
func sees(t *testing.T, s api.Schema, name string, x, want api.Tree) {
	t.Helper()
	before := plain(x)
	got, ok := project.Project(s, name, x)
	if !ok || !equal(got, want) {
		t.Fatalf("Project(%q, %s): %s, %v; want %s", name, short(x), short(got), ok, short(want))
	}
	if !reflect.DeepEqual(plain(x), before) {
		t.Fatalf("Project turned %s to %s", short(before), short(x))
	}
	if e := valid.Valid(s, name, got); e != api.OK {
		t.Fatalf("what %q sees of %s is not Valid: %s, %v", name, short(x), short(got), e)
	}
	if again, ok := project.Project(s, name, got); !ok || !equal(again, got) {
		t.Fatalf("%q sees %s, and of that %s, %v", name, short(got), short(again), ok)
	}
	if !equal(valid.Bare(got), got) {
		t.Fatalf("%q sees a rest: %s", name, short(got))
	}
}

// refuses ends the test, if Project does not answer zero and false, or turns what is handed in.
func refuses(t *testing.T, s api.Schema, name string, x api.Tree) {
	t.Helper()
	if got, ok := project.Project(s, name, x); ok || !reflect.DeepEqual(got, api.Tree{}) {
		t.Fatalf("Project(%q, %s): %s, %v; want none", name, short(x), short(got), ok)
	}
}

// P13.2: the chapter's example.
func TestExample(t *testing.T) {
	s := schema(t, "schema s; message m { int32 a = 1; }")
	sees(t, s, "m", msg(at(1, num(1<<40))), msg(at(1, num(1<<31-1))))
}

// P13.2: a schema that check does not say OK of.
func TestRefusesSchema(t *testing.T) {
	for _, turn := range []func(s *api.Schema){
		func(s *api.Schema) { *s = api.Schema{} },
		func(s *api.Schema) { s.Name = "" },
		func(s *api.Schema) { s.Messages = nil },
		func(s *api.Schema) { s.Messages[2].Name = "m" },
		func(s *api.Schema) { s.Messages[0].Fields[1].Tag = 11 },
		func(s *api.Schema) { s.Messages[0].Fields[0].Label = 0 },
		func(s *api.Schema) { s.Messages[0].Fields[0].Type.Kind = 8 },
		func(s *api.Schema) { s.Messages[1].Fields[3].Type.Name = "x" },
		func(s *api.Schema) { s.Messages[0].Reserved[0] = 0 },
		func(s *api.Schema) { s.Enums[0].Values[0].N = 1 },
		func(s *api.Schema) { s.Methods[0].Out = "e" },
	} {
		s := schema(t, all)
		turn(&s)
		if check.Check(s) == api.OK {
			t.Fatal("it may be")
		}
		for _, name := range []string{"m", "n", "empty", "none", ""} {
			for _, x := range []api.Tree{msg(), msg(at(11, num(1))), with(msg(), rawNum(300, 1)), num(1), {}} {
				refuses(t, s, name, x)
			}
		}
	}
}

// P13.2: a name that is no message's.
func TestRefusesName(t *testing.T) {
	s := schema(t, all)
	for _, name := range []string{"", "e", "f", "s", "none", "M", "m ", " m", "a11", "zero", "\xff"} {
		for _, x := range []api.Tree{msg(), msg(at(11, num(1))), num(1), {}, msg(at(0, num(1)))} {
			refuses(t, s, name, x)
		}
	}
}

// P13.2: a tree that value's Check refuses, or that is no message.
func TestRefusesTree(t *testing.T) {
	s := schema(t, all)
	for _, x := range []api.Tree{
		{}, num(0), num(1), str(""), str("a"), {Kind: 4}, {Kind: -3}, {Kind: 1<<32 + 3}, {Kind: api.TreeMsg, N: 1}, {Kind: api.TreeMsg, S: "a"}, {Kind: 1, Entries: []api.Entry{at(11, num(1))}},
		msg(at(0, num(1))), msg(at(-1, num(1))), msg(at(501, num(1))), msg(at(12, num(1)), at(11, num(1))), msg(at(11, num(1)), at(11, num(1))), msg(at(11)), msg(at(31, num(1), str(""))), msg(at(48, num(1), msg())),
		msg(at(31, slices.Repeat([]api.Tree{num(1)}, api.MaxItems+1)...)), msg(at(11, api.Tree{Kind: api.TreeNum, N: 1, S: "a"})), msg(at(14, api.Tree{Kind: api.TreeText, N: 1, S: "a"})), msg(at(11, api.Tree{})),
		with(msg(), rawNum(0, 1)), with(msg(), rawNum(501, 1)), with(msg(), rawNum(300, 0), rawNum(2, 0)), with(msg(at(11, num(1))), rawNum(11, 0)), with(msg(), api.Raw{Tag: 2, Wire: 2}), with(msg(), api.Raw{Tag: 2, N: 1, B: "a"}), with(msg(), rawText(2, strings.Repeat("a", api.MaxBytes+1))),
		wrap(msg(), 27, api.MaxDepth), wrap(msg(at(11, num(1))), 37, api.MaxDepth), wrap(num(1), 400, api.MaxDepth+1),
		// What is wrong may stand where nothing would be seen: under a tag that is no field's, ahead of the last one, beside one that does not fit.
		msg(at(48, num(1)), at(501, num(1))), msg(at(48, msg(at(0, num(1))))), msg(at(27, wrap(msg(), 27, api.MaxDepth), msg())), msg(at(14, num(5), api.Tree{Kind: api.TreeNum, S: "a"})), wrap(with(msg(), rawNum(501, 0)), 400, 3),
		ring(37), ring(27, msg()), ring(400), msg(at(11, num(0)), at(37, ring(37))),
	} {
		for _, name := range []string{"m", "n", "empty"} {
			if got, ok := project.Project(s, name, x); ok || !reflect.DeepEqual(got, api.Tree{}) {
				t.Errorf("Project(%q): %v", name, ok)
			}
		}
	}
}

// seesEverywhere is sees of a message m, and of one that stands in others.
func seesEverywhere(t *testing.T, s api.Schema, x, want api.Tree) {
	t.Helper()
	sees(t, s, "m", x, want)
	sees(t, s, "m", msg(at(37, msg(), x, msg(at(11, num(1))), x)), msg(at(37, msg(), want, msg(at(11, num(1))), want)))
	sees(t, s, "m", wrap(x, 37, api.MaxDepth-value.Depth(x)), wrap(want, 37, api.MaxDepth-value.Depth(x)))
	sees(t, s, "m", msg(at(2, x), at(27, msg(at(27, x)))), msg(at(27, msg(at(27, want)))))
	one := msg(at(1, str("a")), at(47, want))
	if isZero(want) {
		one = msg(at(1, str("a")))
	}
	sees(t, s, "n", msg(at(1, str("a")), at(47, x)), one)
	sees(t, s, "empty", x, msg())
}

// P13.2: entries of which a schema has no field are not seen, whatever is in them; nor is one that another message has.
func TestEntryWithoutField(t *testing.T) {
	s := schema(t, all)
	for _, tag := range []int{1, 2, 10, 18, 22, 36, 41, 48, 300, 500} {
		for _, l := range [][]api.Tree{{num(1)}, {num(0), num(0)}, {str("a")}, {msg()}, {msg(at(11, num(1)))}, {with(msg(), rawNum(11, 1))}} {
			seesEverywhere(t, s, msg(at(tag, l...)), msg())
		}
	}
	seesEverywhere(t, s, msg(at(10, num(1)), at(11, num(5)), at(18, msg(at(11, num(1)))), at(22, num(1)), at(24, str("a")), at(48, str("\xff")), at(500, num(1))), msg(at(11, num(5)), at(24, str("a"))))
	sees(t, s, "n", msg(at(1, str("a")), at(11, num(1)), at(22, num(2))), msg(at(1, str("a")), at(22, num(2))))
}

// otherEntry is one that the message m or n sees, its last one.
func otherEntry(name string) api.Entry {
	if name == "m" {
		return at(47, msg(at(1, str("x"))))
	}
	return at(47, msg(at(14, str("x"))))
}

// P13.2: each field with each kind of tree.
func TestEachFieldWithEachTree(t *testing.T) {
	s := schema(t, all)
	for _, m := range s.Messages {
		for _, f := range m.Fields {
			for _, l := range [][]api.Tree{{num(1)}, {str("a")}, {msg(at(37, msg()))}, {num(0)}, {str("")}, {msg()}, {num(1), num(0), num(1)}, {str("a"), str(""), str("b")}, {msg(at(37, msg())), msg()}} {
				want := msg(at(f.Tag, l...))
				if f.Label != api.Repeated {
					want = msg(at(f.Tag, l[len(l)-1]))
				}
				if l[0].Kind != treeKind(f.Type.Kind) || f.Label == api.One && isZero(l[len(l)-1]) {
					want = msg()
				}
				sees(t, s, m.Name, msg(at(f.Tag, l...)), want)
				// One that is not seen takes nothing else with it.
				if f.Tag != 47 {
					other := otherEntry(m.Name)
					want.Entries = append(want.Entries, other)
					sees(t, s, m.Name, msg(at(f.Tag, l...), other), want)
				}
			}
		}
	}
}

// P13.2: numbers that a Bool, an Enum may have.
func TestNumbers(t *testing.T) {
	s := schema(t, all)
	for _, n := range []int{1, 2, 3, 9, 77, 1<<31 - 1, 1 << 31, 1 << 32, 1<<32 + 1, -1, -2, -1 << 31, -1<<31 - 1, 1<<63 - 1, -1 << 63} {
		ifSo := func(ok bool, e api.Entry) api.Tree {
			if ok {
				return msg(e)
			}
			return msg()
		}
		seesEverywhere(t, s, msg(at(11, num(n))), msg(at(11, num(cut(n)))))
		seesEverywhere(t, s, msg(at(21, num(n))), msg(at(21, num(cut(n)))))
		seesEverywhere(t, s, msg(at(12, num(n))), msg(at(12, num(n))))
		seesEverywhere(t, s, msg(at(13, num(n))), ifSo(n == 1, at(13, num(n))))
		// It need not be a number that the enumeration names.
		isEnum := n >= 0 && n <= 1<<31-1
		seesEverywhere(t, s, msg(at(16, num(n))), ifSo(isEnum, at(16, num(n))))
		seesEverywhere(t, s, msg(at(26, num(n))), ifSo(isEnum, at(26, num(n))))
		sees(t, s, "n", msg(at(23, num(n))), ifSo(n == 1, at(23, num(n))))
		sees(t, s, "n", msg(at(33, num(0), num(n))), ifSo(n == 1, at(33, num(0), num(n))))
		sees(t, s, "n", msg(at(36, num(n), num(0))), ifSo(isEnum, at(36, num(n), num(0))))
		sees(t, s, "n", msg(at(22, num(n)), at(32, num(n), num(0), num(n))), msg(at(22, num(n)), at(32, num(n), num(0), num(n))))
	}
}

// P13.2: an Int32 that is beyond its ends, among several.
func TestNumbersAmongSeveral(t *testing.T) {
	s := schema(t, all)
	seesEverywhere(t, s, msg(at(31, num(1<<31), num(7), num(-1<<31-1), num(0), num(1<<31-1), num(-1<<31), num(1<<63-1), num(-1<<63))), msg(at(31, num(1<<31-1), num(7), num(-1<<31), num(0), num(1<<31-1), num(-1<<31), num(1<<31-1), num(-1<<31))))
	seesEverywhere(t, s, msg(at(11, num(5), num(1<<40))), msg(at(11, num(1<<31-1))))
	seesEverywhere(t, s, msg(at(11, num(1<<40), num(5))), msg(at(11, num(5))))
	seesEverywhere(t, s, msg(at(21, num(1<<40), num(-1<<40))), msg(at(21, num(-1<<31))))
	var many, want []api.Tree
	for i := range api.MaxItems {
		many, want = append(many, num(i<<26)), append(want, num(cut(i<<26)))
	}
	seesEverywhere(t, s, msg(at(31, many...)), msg(at(31, want...)))
	seesEverywhere(t, s, msg(at(12, many...)), msg(at(12, num(63<<26))))
}

// P13.2: texts of Text, and those of Bytes.
func TestTexts(t *testing.T) {
	s := schema(t, all)
	for _, x := range []string{"a", "größe", "\x00", "\u07ff\u0800\uffff\U00010000\U0010ffff", strings.Repeat("ä", 5000)} {
		seesEverywhere(t, s, msg(at(14, str(x)), at(15, str(x)), at(24, str(x)), at(34, str(x), str(""), str(x)), at(35, str(x), str(""))), msg(at(14, str(x)), at(15, str(x)), at(24, str(x)), at(34, str(x), str(""), str(x)), at(35, str(x), str(""))))
	}
	for _, x := range []string{"\xff", "\x80", "a\xc3", "\xc0\x80", "\xc1\xbf", "\xe0\x80\x80", "\xed\xa0\x80", "\xf0\x80\x80\x80", "\xf4\x90\x80\x80", "\xf8\x80\x80\x80\x80", strings.Repeat("a", 5000) + "\xc3"} {
		seesEverywhere(t, s, msg(at(14, str(x)), at(15, str(x)), at(24, str(x)), at(34, str(x), str(""), str("a")), at(35, str(x), str(""))), msg(at(15, str(x)), at(35, str(x), str(""))))
		sees(t, s, "n", msg(at(1, str(x)), at(25, str(x))), msg(at(25, str(x))))
	}
}

// P13.2: one that does not fit takes all of its entry with it, wherever it stands, and whatever the label; of a field that is not Repeated too, though the last one alone would be seen.
func TestOneThatDoesNotFit(t *testing.T) {
	s := schema(t, all)
	for _, x := range []struct {
		name      string
		tag       int
		good, bad api.Tree
	}{{"m", 13, num(1), num(2)}, {"m", 16, num(1), num(-1)}, {"m", 26, num(0), num(1 << 31)}, {"m", 14, str("a"), str("\xff")}, {"m", 24, str(""), str("a\xc3")}, {"m", 34, str("a"), str("\xff")}, {"n", 23, num(0), num(-1)}, {"n", 33, num(0), num(2)}, {"n", 36, num(3), num(-1)}, {"n", 1, str("a"), str("\x80")}} {
		for n := 1; n <= 5; n++ {
			for place := range n {
				l := slices.Repeat([]api.Tree{x.good}, n)
				l[place] = x.bad
				sees(t, s, x.name, msg(at(x.tag, l...)), msg())
				sees(t, s, x.name, msg(at(x.tag, l...), otherEntry(x.name)), msg(otherEntry(x.name)))
			}
			l := slices.Repeat([]api.Tree{x.good}, n)
			if x.tag < 30 {
				l = l[:1]
			}
			sees(t, s, x.name, msg(at(x.tag, slices.Repeat([]api.Tree{x.good}, n)...)), msg(at(x.tag, l...)))
		}
		l := slices.Repeat([]api.Tree{x.good}, api.MaxItems)
		l[api.MaxItems-1] = x.bad
		sees(t, s, x.name, msg(at(x.tag, l...)), msg())
	}
	// A message fits, whatever is in it: it is only seen without that.
	seesEverywhere(t, s, msg(at(37, msg(at(13, num(2))), msg(at(11, num(1)), at(14, str("\xff"))), msg(at(2, num(1))))), msg(at(37, msg(), msg(at(11, num(1))), msg())))
}

// P13.2: of a field that is not Repeated the last one alone.
func TestLastOneAlone(t *testing.T) {
	s := schema(t, all)
	for _, x := range []struct{ t, want api.Tree }{
		{msg(at(11, num(1), num(2), num(3))), msg(at(11, num(3)))}, {msg(at(12, num(1), num(1<<40))), msg(at(12, num(1<<40)))}, {msg(at(13, num(0), num(1))), msg(at(13, num(1)))}, {msg(at(14, str("b"), str("a"))), msg(at(14, str("a")))}, {msg(at(15, str("\xff"), str("a"), str("\xfe"))), msg(at(15, str("\xfe")))}, {msg(at(16, num(9), num(4))), msg(at(16, num(4)))},
		{msg(at(17, msg(at(11, num(1)), at(12, num(1))), msg(at(12, num(2))))), msg(at(17, msg(at(12, num(2)))))}, {msg(at(27, msg(at(11, num(1))), msg())), msg(at(27, msg()))}, {msg(at(21, num(4), num(0))), msg(at(21, num(0)))}, {msg(at(24, str("a"), str(""))), msg(at(24, str("")))},
		// The last one is Zero: there was one that is not.
		{msg(at(11, num(5), num(0))), msg()}, {msg(at(14, str("a"), str(""))), msg()}, {msg(at(13, num(1), num(0))), msg()}, {msg(at(17, msg(at(11, num(1))), msg())), msg()}, {msg(at(17, msg(at(11, num(1))), msg(at(2, num(1))))), msg()},
		{msg(at(11, num(0), num(5))), msg(at(11, num(5)))}, {msg(at(17, msg(), msg(at(11, num(5))))), msg(at(17, msg(at(11, num(5)))))},
		{msg(at(31, num(1), num(2), num(3))), msg(at(31, num(1), num(2), num(3)))}, {msg(at(34, str("b"), str(""), str("a"))), msg(at(34, str("b"), str(""), str("a")))},
	} {
		seesEverywhere(t, s, x.t, x.want)
	}
}

// P13.2: a One field that is Zero as it stands, or then; others stay.
func TestZero(t *testing.T) {
	s := schema(t, all)
	for _, x := range []struct{ t, want api.Tree }{
		{msg(at(11, num(0)), at(12, num(0)), at(13, num(0)), at(14, str("")), at(15, str("")), at(16, num(0)), at(17, msg()), at(47, msg())), msg()},
		{msg(at(21, num(0)), at(24, str("")), at(26, num(0)), at(27, msg())), msg(at(21, num(0)), at(24, str("")), at(26, num(0)), at(27, msg()))},
		{msg(at(31, num(0), num(0)), at(34, str("")), at(35, str("")), at(37, msg())), msg(at(31, num(0), num(0)), at(34, str("")), at(35, str("")), at(37, msg()))},
		// To be cut is never to be nothing, also of numbers whose lowest 32 bits are.
		{msg(at(11, num(1<<32)), at(21, num(-1<<32)), at(31, num(1<<33))), msg(at(11, num(1<<31-1)), at(21, num(-1<<31)), at(31, num(1<<31-1)))},
		// A message of which nothing is seen: because of its rest, its tags, its kinds, its zeros, the messages in it.
		{msg(at(17, with(msg(), rawNum(300, 1)))), msg()}, {msg(at(17, msg(at(300, num(1))))), msg()}, {msg(at(17, msg(at(11, str("a"))))), msg()}, {msg(at(17, msg(at(11, num(0))))), msg()}, {msg(at(17, msg(at(13, num(2))))), msg()}, {msg(at(47, msg(at(11, num(1))))), msg()},
		{msg(at(17, msg(at(17, msg(at(17, with(msg(at(11, num(0)), at(12, str("a")), at(300, num(1))), rawNum(301, 1))))), at(47, msg(at(47, msg())))))), msg()},
		{msg(at(17, msg(at(17, msg(at(27, with(msg(), rawNum(301, 1)))))))), msg(at(17, msg(at(17, msg(at(27, msg()))))))},
		{msg(at(27, with(msg(), rawNum(300, 1)))), msg(at(27, msg()))}, {msg(at(27, msg(at(300, num(1))))), msg(at(27, msg()))}, {msg(at(37, msg(at(300, num(1))), with(msg(), rawNum(300, 1)))), msg(at(37, msg(), msg()))},
		// A One that is seen makes that in which it stands seen.
		{msg(at(17, msg(at(11, num(0)), at(12, num(1))))), msg(at(17, msg(at(12, num(1)))))},
	} {
		seesEverywhere(t, s, x.t, x.want)
	}
}

// P13.2: as deep as may be, by each label.
func TestDeep(t *testing.T) {
	s := schema(t, all)
	for _, tag := range []int{17, 27, 37} {
		for n := range api.MaxDepth {
			sees(t, s, "m", wrap(msg(at(11, num(1<<40)), at(400, num(1))), tag, n), wrap(msg(at(11, num(1<<31-1))), tag, n))
			last := wrap(msg(), tag, n)
			if tag == 17 {
				last = msg()
			}
			sees(t, s, "m", wrap(with(msg(at(12, str("a"))), rawNum(300, 1)), tag, n), last)
		}
		refuses(t, s, "m", wrap(msg(at(11, num(1))), tag, api.MaxDepth))
	}
	// From one message to the other one and back.
	x, want := msg(at(14, str("a")), at(300, num(1))), msg(at(14, str("a")))
	for range 4 {
		x, want = msg(at(47, msg(at(1, str("b")), at(11, num(1)), at(47, x)))), msg(at(47, msg(at(1, str("b")), at(47, want))))
	}
	sees(t, s, "m", x, want)
	sees(t, s, "n", msg(at(47, x)), msg(at(47, want)))
	refuses(t, s, "n", msg(at(37, msg(at(47, x)))))
}

// P13.2: no rest in all of the depth, what of a field's tag is in it neither.
func TestRest(t *testing.T) {
	s := schema(t, all)
	for _, l := range [][]api.Raw{{rawNum(300, 1)}, {rawNum(2, 1), rawNum(2, 1), rawText(48, "a"), rawText(500, "")}, {rawNum(21, 5), rawText(24, "a")}, {rawNum(11, 5)}, {rawText(37, "\x16\x02")}} {
		for n := range api.MaxDepth {
			x, want := with(msg(), l...), msg()
			for range n {
				x, want = with(msg(at(27, x)), rawNum(300, 1), rawText(300, "a")), msg(at(27, want))
			}
			sees(t, s, "m", x, want)
		}
		seesEverywhere(t, s, with(msg(at(12, num(1)), at(31, num(1)), at(47, with(msg(at(1, str("a"))), l...))), l...), msg(at(12, num(1)), at(31, num(1)), at(47, msg(at(1, str("a"))))))
		sees(t, s, "empty", with(msg(), l...), msg())
	}
}

// P13.2: values of one schema, seen by another one that reads its tags in another way.
func TestByAnotherSchema(t *testing.T) {
	a := schema(t, "schema s; message m { int64 a = 1; repeated int64 b = 2; text c = 3; bytes d = 4; n e = 5; repeated n f = 6; optional k g = 7; } message n { int64 x = 1; text y = 2; } enum k { o = 0; p = 9; }")
	full := msg(at(1, num(1<<40)), at(2, num(1), num(0), num(-1<<40)), at(3, str("c")), at(4, str("\xff")), at(5, msg(at(1, num(1<<40)), at(2, str("y")))), at(6, msg(), msg(at(1, num(1))), msg(at(2, str("z")))), at(7, num(7)))
	sees(t, a, "m", full, full)
	for _, x := range []struct {
		text string
		want api.Tree
	}{
		{"message m { int32 a = 1; repeated int32 b = 2; text c = 3; text d = 4; }", msg(at(1, num(1<<31-1)), at(2, num(1), num(0), num(-1<<31)), at(3, str("c")))},
		// One as Repeated, Repeated as One or Optional.
		{"message m { repeated int64 a = 1; int64 b = 2; repeated text c = 3; optional n f = 6; repeated k g = 7; } message n { int32 x = 1; } enum k { o = 0; }", msg(at(1, num(1<<40)), at(2, num(-1<<40)), at(3, str("c")), at(6, msg()), at(7, num(7)))},
		{"message m { optional int32 b = 2; n f = 6; } message n { int32 x = 1; }", msg(at(2, num(-1<<31)))},
		{"message m { bool b = 2; repeated n e = 5; n f = 6; } message n { bytes y = 2; }", msg(at(5, msg(at(2, str("y")))), at(6, msg(at(2, str("z")))))},
		// Of another kind.
		{"message m { text a = 1; m b = 2; int32 c = 3; int64 d = 4; text e = 5; bytes f = 6; text g = 7; }", msg()},
		{"message m { bool a = 1; repeated bool b = 2; bytes c = 3; repeated bytes d = 4; bool g = 7; }", msg(at(3, str("c")), at(4, str("\xff")))},
		{"message m { k a = 1; repeated k b = 2; int32 g = 7; } enum k { o = 0; }", msg(at(7, num(7)))},
		// Another message.
		{"message m { m e = 5; repeated m f = 6; text y = 2; }", msg(at(5, msg(at(2, str("y")))), at(6, msg(), msg(), msg(at(2, str("z")))))},
		{"message m { o e = 5; repeated o f = 6; } message o { }", msg(at(6, msg(), msg(), msg()))},
		{"message m { optional o e = 5; optional o f = 6; } message o { text x = 1; }", msg(at(5, msg()), at(6, msg()))},
		{"message m { reserved 1, 2, 3, 4, 5, 6, 7; }", msg()}, {"message m { int64 other = 8; }", msg()},
	} {
		sees(t, schema(t, "schema t; "+x.text), "m", full, x.want)
	}
}

// P13.2, P13.3: any message by any schema.
func TestAgainstReference(t *testing.T) {
	r := rand.New(rand.NewSource(1))
	tags := []int{1, 2, 3, 7, 200, 499, 500}
	something := 0
	for range 1000 {
		s := anySchema(r, tags...)
		if e := check.Check(s); e != api.OK {
			t.Fatal(e, short(s))
		}
		for range 40 {
			name := pick(r, "m", "n")
			x := anyMessage(r, r.Intn(4), tags...)
			want := seen(s, name, x)
			sees(t, s, name, x, want)
			if !isZero(want) {
				something++
			}
		}
	}
	if something < 10000 {
		t.Fatalf("of %d alone something is seen", something)
	}
}

// P13.3: what one schema sees, seen by another one, is such as if there had been no more; what is Valid by one is seen by another one as the reference says.
func TestBetweenSchemas(t *testing.T) {
	r := rand.New(rand.NewSource(2))
	tags := []int{1, 2, 3, 4, 5, 6}
	for range 500 {
		a, b := anySchema(r, tags...), anySchema(r, tags...)
		for range 10 {
			x := fitting(r, a, "m", 3, true)
			sees(t, a, "m", x, seen(a, "m", x))
			sees(t, b, "m", x, seen(b, "m", x))
			y, _ := project.Project(b, "m", x)
			sees(t, a, "m", y, seen(a, "m", y))
		}
	}
}

// P13.3: a value that is Valid is seen as it is, but for Rest.
func TestValidValues(t *testing.T) {
	r := rand.New(rand.NewSource(3))
	s := schema(t, all)
	many := 0
	for range 2000 {
		name := pick(r, "m", "n", "empty")
		x := fitting(r, s, name, 4, false)
		if e := valid.Valid(s, name, x); e != api.OK {
			t.Fatal(e, short(x))
		}
		sees(t, s, name, x, x)
		// A rest of messages that are something without it.
		y := with(plain(x), rawNum(300, 1), rawText(301, "a"))
		for i, e := range y.Entries {
			for j := range e.Trees {
				if e.Trees[j].Kind == api.TreeMsg {
					y.Entries[i].Trees[j].Rest = []api.Raw{rawNum(400, 1)}
				}
			}
		}
		if e := valid.Valid(s, name, y); e != api.OK {
			t.Fatal(e, short(y))
		}
		sees(t, s, name, y, x)
		// A rest anywhere: a One message may be nothing without it.
		z := fitting(r, s, name, 4, true)
		if e := valid.Valid(s, name, z); e != api.OK {
			t.Fatal(e, short(z))
		}
		if bare := valid.Bare(z); valid.Valid(s, name, bare) == api.OK {
			sees(t, s, name, z, bare)
			many++
		} else {
			sees(t, s, name, z, seen(s, name, bare))
		}
	}
	if many < 1200 || many == 2000 {
		t.Fatalf("%d of 2000 may be without their rest", many)
	}
	full := msg(at(11, num(-1<<31)), at(12, num(-1<<63)), at(13, num(1)), at(14, str("größe")), at(15, str("\xff")), at(16, num(1<<31-1)), at(17, msg(at(11, num(1)))), at(21, num(0)), at(24, str("")), at(26, num(0)), at(27, msg()), at(31, num(0), num(1<<31-1)), at(34, str(""), str("a"), str("")), at(35, str("\x80"), str("")), at(37, msg(), msg(at(11, num(1)))), at(47, msg(at(1, str("a")))))
	seesEverywhere(t, s, full, full)
	seesEverywhere(t, s, msg(at(31, slices.Repeat([]api.Tree{num(0)}, api.MaxItems)...)), msg(at(31, slices.Repeat([]api.Tree{num(0)}, api.MaxItems)...)))
}
