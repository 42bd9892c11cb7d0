package encode_test

import (
	"math/rand"
	"strings"
	"testing"

	"concordat/api"
	"concordat/encode"
	"concordat/value"
)

// keep ends the test, if a tree that is not x has x's bytes.
func keep(t *testing.T, seen map[string]api.Tree, x api.Tree) {
	t.Helper()
	b, e := encode.Encode(x)
	if e != api.OK {
		t.Fatal(short(x), e)
	}
	if y, ok := seen[string(b)]; ok && !value.Same(x, y) {
		t.Fatalf("% x is %s and %s", b, short(x), short(y))
	}
	seen[string(b)] = x
}

// P11.2: flat messages that differ in one number, text, tag or kind.
func TestOneDifference(t *testing.T) {
	a := msg(at(2, num(5)), at(4, str("ab"), str("c")), at(6, num(0), num(-1)))
	others := []api.Tree{
		msg(), msg(at(2, num(5))), msg(at(4, str("ab"), str("c")), at(6, num(0), num(-1))),
		msg(at(2, num(-5)), at(4, str("ab"), str("c")), at(6, num(0), num(-1))), msg(at(2, num(4)), at(4, str("ab"), str("c")), at(6, num(0), num(-1))), msg(at(2, num(5+1<<32)), at(4, str("ab"), str("c")), at(6, num(0), num(-1))),
		msg(at(2, num(5)), at(4, str("ab"), str("c")), at(6, num(-1), num(0))), msg(at(2, num(5)), at(4, str("ab"), str("c")), at(6, num(0))), msg(at(2, num(5)), at(4, str("ab"), str("c")), at(6, num(0), num(-1), num(0))),
		msg(at(2, num(5)), at(4, str("a"), str("bc")), at(6, num(0), num(-1))), msg(at(2, num(5)), at(4, str("c"), str("ab")), at(6, num(0), num(-1))), msg(at(2, num(5)), at(4, str("abc")), at(6, num(0), num(-1))), msg(at(2, num(5)), at(4, str("ab"), str("c"), str("")), at(6, num(0), num(-1))), msg(at(2, num(5)), at(4, str(""), str("ab"), str("c")), at(6, num(0), num(-1))), msg(at(2, num(5)), at(4, str("ab\x00"), str("c")), at(6, num(0), num(-1))),
		msg(at(1, num(5)), at(4, str("ab"), str("c")), at(6, num(0), num(-1))), msg(at(2, num(5)), at(3, str("ab"), str("c")), at(6, num(0), num(-1))), msg(at(2, num(5)), at(4, str("ab")), at(5, str("c")), at(6, num(0), num(-1))), msg(at(2, num(5)), at(4, str("ab"), str("c")), at(500, num(0), num(-1))),
		msg(at(2, str("\x05")), at(4, str("ab"), str("c")), at(6, num(0), num(-1))), msg(at(2, str("")), at(4, str("ab"), str("c")), at(6, num(0), num(-1))), msg(at(2, str("\x0a")), at(4, str("ab"), str("c")), at(6, num(0), num(-1))), msg(at(2, num(5)), at(4, num(2), num(1)), at(6, num(0), num(-1))), msg(at(2, num(5)), at(4, str("ab"), str("c")), at(6, str(""), str("\x01"))),
	}
	seen := map[string]api.Tree{}
	for _, x := range append(others, a) {
		keep(t, seen, x)
	}
	if len(seen) != len(others)+1 {
		t.Fatal(len(seen))
	}
}

// P11.2: all small flat messages.
func TestFlatMessages(t *testing.T) {
	lists := [][]api.Tree{nil}
	for _, kind := range [][]api.Tree{{num(0), num(1), num(-1), num(64), num(1 << 40)}, {str(""), str("a"), str("\x00"), str("\x02\x00"), str("\x03\x00")}} {
		for _, x := range kind {
			lists = append(lists, []api.Tree{x})
			for _, y := range kind {
				lists = append(lists, []api.Tree{x, y})
			}
		}
	}
	seen := map[string]api.Tree{}
	for _, tags := range [][2]int{{1, 2}, {1, 500}, {63, 64}} {
		for _, a := range lists {
			for _, b := range lists {
				keep(t, seen, flat(tags, a, b))
			}
		}
	}
	// Those with but the first of the tags are there twice for 1, the empty one three times.
	n := len(lists) - 1
	if want := 3*n*n + 5*n + 1; len(seen) != want {
		t.Fatal(len(seen), want)
	}
}

// flat is a message with these trees under two tags; none, no entry.
func flat(tags [2]int, lists ...[]api.Tree) api.Tree {
	x := msg()
	for i, l := range lists {
		if len(l) > 0 {
			x.Entries = append(x.Entries, at(tags[i], l...))
		}
	}
	return x
}

// kinded is a message in which a tag says what stands under it: 1 a number, 2 a text, 3 a message, others stand in Rest.
func kinded(r *rand.Rand, depth int) api.Tree {
	x := msg()
	for tag := 1; tag <= 4; tag++ {
		var l []api.Tree
		for range r.Intn(3) {
			switch tag {
			case 1:
				l = append(l, num(r.Intn(3)-1))
			case 2:
				l = append(l, str(pick(r, "", "\x02\x00", "\x05\x00", "a")))
			case 3:
				if depth > 0 {
					l = append(l, kinded(r, depth-1))
				}
			case 4:
				x.Rest = append(x.Rest, pick(r, rawNum(tag, r.Intn(2)), rawText(tag, pick(r, "", "\x08"))))
			}
		}
		if len(l) > 0 {
			x.Entries = append(x.Entries, at(tag, l...))
		}
	}
	return x
}

// P11.2: messages in messages, where the same tags are messages, texts and numbers in both.
func TestDeepMessages(t *testing.T) {
	r := rand.New(rand.NewSource(2))
	seen := map[string]api.Tree{}
	for range 60000 {
		keep(t, seen, kinded(r, r.Intn(4)))
	}
	if len(seen) < 20000 {
		t.Fatal(len(seen))
	}
}

// P11.2: a message and a text of its bytes look alike, as the chapter says; what they stand in, too.
func TestLookAlike(t *testing.T) {
	r := rand.New(rand.NewSource(3))
	for range 1000 {
		x := someMessage(r, 2)
		b, e := encode.Encode(x)
		if e != api.OK {
			continue
		}
		want, f := encode.Encode(msg(at(7, str(string(b)))))
		bytesAre(t, msg(at(7, x)), string(want), f)
	}
	bytesAre(t, msg(at(1, msg())), "\x03\x00", api.OK)
	bytesAre(t, msg(at(1, str(""))), "\x03\x00", api.OK)
	bytesAre(t, with(msg(), rawText(1, "")), "\x03\x00", api.OK)
	// Also where the whole is as deep: what counts is each place for itself.
	bytesAre(t, msg(at(1, msg()), at(2, str(""))), "\x03\x00\x05\x00", api.OK)
	bytesAre(t, msg(at(1, str("")), at(2, msg())), "\x03\x00\x05\x00", api.OK)
	bytesAre(t, msg(at(1, msg(at(1, long(9))))), "\x03\x0b\x03\x09"+strings.Repeat("a", 9), api.OK)
}
