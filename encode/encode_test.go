package encode_test

import (
	"math"
	"math/rand"
	"slices"
	"strings"
	"testing"

	"concordat/api"
	"concordat/encode"
	"concordat/value"
	"concordat/wire"
)

// rawsAre ends the test, if Raws does not answer want, or turns what is handed in.
func rawsAre(t *testing.T, x api.Tree, want []api.Raw, err api.Errno) {
	t.Helper()
	before := plain(x)
	got, e := encode.Raws(x)
	if !slices.Equal(got, want) || e != err || e != api.OK && got != nil {
		t.Fatalf("Raws(%s): %s, %v; want %s, %v", short(x), short(got), e, short(want), err)
	}
	if !equal(x, before) {
		t.Fatalf("Raws turned %s to %s", short(before), short(x))
	}
}

// bytesAre ends the test, if Encode does not answer want, or Len something else, or what is handed in is turned.
func bytesAre(t *testing.T, x api.Tree, want string, err api.Errno) {
	t.Helper()
	before := plain(x)
	got, e := encode.Encode(x)
	if string(got) != want || e != err || e != api.OK && got != nil {
		t.Fatalf("Encode(%s): % x, %v; want % x, %v", short(x), got, e, want, err)
	}
	if n := encode.Len(x); n != len(want) {
		t.Fatalf("Len(%s): %d; want %d", short(x), n, len(want))
	}
	if !equal(x, before) {
		t.Fatalf("Encode or Len turned %s to %s", short(before), short(x))
	}
}

// errorsAre ends the test, if Raws and Encode do not end with these, or one of the three answers something beside an error.
func errorsAre(t *testing.T, x api.Tree, ofRaws, ofEncode api.Errno) {
	t.Helper()
	l, e := encode.Raws(x)
	b, f := encode.Encode(x)
	if e != ofRaws || f != ofEncode {
		t.Fatalf("of %s: %v, %v; want %v, %v", short(x), e, f, ofRaws, ofEncode)
	}
	if e != api.OK && l != nil || f != api.OK && (b != nil || encode.Len(x) != 0) {
		t.Fatalf("of %s: %d fields, %d bytes, Len %d beside %v, %v", short(x), len(l), len(b), encode.Len(x), e, f)
	}
}

// P11.1: the chapter's example.
func TestExample(t *testing.T) {
	x := msg(at(1, num(5)))
	rawsAre(t, x, []api.Raw{rawNum(1, 5)}, api.OK)
	bytesAre(t, x, "\x02\x0a", api.OK)
}

// P11.1: a field of each kind of tree, of several under one tag; entries and Rest by their tags.
func TestFields(t *testing.T) {
	empty := api.Tree{Kind: api.TreeMsg, Entries: []api.Entry{}, Rest: []api.Raw{}}
	for _, x := range []struct {
		t     api.Tree
		raws  []api.Raw
		bytes string
	}{
		{msg(), nil, ""}, {empty, nil, ""},
		{msg(at(1, num(0))), []api.Raw{rawNum(1, 0)}, "\x02\x00"},
		{msg(at(1, num(-1))), []api.Raw{rawNum(1, -1)}, "\x02\x01"},
		{msg(at(500, num(64))), []api.Raw{rawNum(500, 64)}, "\xe8\x07\x80\x01"},
		{msg(at(2, num(math.MaxInt64))), []api.Raw{rawNum(2, math.MaxInt64)}, "\x04\xfe\xff\xff\xff\xff\xff\xff\xff\xff\x01"},
		{msg(at(2, num(math.MinInt64))), []api.Raw{rawNum(2, math.MinInt64)}, "\x04\xff\xff\xff\xff\xff\xff\xff\xff\xff\x01"},
		{msg(at(1, str(""))), []api.Raw{rawText(1, "")}, "\x03\x00"},
		{msg(at(63, str("ab"))), []api.Raw{rawText(63, "ab")}, "\x7f\x02ab"},
		{msg(at(64, str("\xff\x00"))), []api.Raw{rawText(64, "\xff\x00")}, "\x81\x01\x02\xff\x00"},
		{msg(at(1, msg())), []api.Raw{rawText(1, "")}, "\x03\x00"}, {msg(at(1, empty)), []api.Raw{rawText(1, "")}, "\x03\x00"},
		{msg(at(1, msg(at(1, num(5))))), []api.Raw{rawText(1, "\x02\x0a")}, "\x03\x02\x02\x0a"},
		{msg(at(3, num(1), num(0), num(1))), []api.Raw{rawNum(3, 1), rawNum(3, 0), rawNum(3, 1)}, "\x06\x02\x06\x00\x06\x02"},
		{msg(at(3, str("b"), str("a"), str(""))), []api.Raw{rawText(3, "b"), rawText(3, "a"), rawText(3, "")}, "\x07\x01b\x07\x01a\x07\x00"},
		{msg(at(3, msg(at(2, num(1))), msg(), msg(at(1, str("a"))))), []api.Raw{rawText(3, "\x04\x02"), rawText(3, ""), rawText(3, "\x03\x01a")}, "\x07\x02\x04\x02\x07\x00\x07\x03\x03\x01a"},
		{msg(at(1, num(1)), at(2, str("a")), at(3, msg(at(1, num(1))))), []api.Raw{rawNum(1, 1), rawText(2, "a"), rawText(3, "\x02\x02")}, "\x02\x02\x05\x01a\x07\x02\x02\x02"},
		{with(msg(), rawNum(1, 1)), []api.Raw{rawNum(1, 1)}, "\x02\x02"},
		{with(msg(), rawText(4, "b"), rawNum(4, 1), rawText(4, "a")), []api.Raw{rawText(4, "b"), rawNum(4, 1), rawText(4, "a")}, "\x09\x01b\x08\x02\x09\x01a"},
		// Rest ahead of, between and behind the entries.
		{with(msg(at(2, num(1))), rawNum(1, 0), rawNum(3, 2)), []api.Raw{rawNum(1, 0), rawNum(2, 1), rawNum(3, 2)}, "\x02\x00\x04\x02\x06\x04"},
		{with(msg(at(1, num(1)), at(4, num(2), num(3))), rawText(2, "b"), rawText(2, "a"), rawNum(500, 4)), []api.Raw{rawNum(1, 1), rawText(2, "b"), rawText(2, "a"), rawNum(4, 2), rawNum(4, 3), rawNum(500, 4)}, "\x02\x02\x05\x01b\x05\x01a\x08\x04\x08\x06\xe8\x07\x08"},
		{with(msg(at(3, num(3)), at(5, num(5))), rawNum(1, 1), rawNum(4, 4), rawNum(4, 3)), []api.Raw{rawNum(1, 1), rawNum(3, 3), rawNum(4, 4), rawNum(4, 3), rawNum(5, 5)}, "\x02\x02\x06\x06\x08\x08\x08\x06\x0a\x0a"},
		// Rest in each message.
		{with(msg(at(2, with(msg(at(2, with(msg(), rawNum(1, 7)))), rawText(1, "a"), rawNum(3, 0)))), rawNum(1, 1), rawText(3, "")), []api.Raw{rawNum(1, 1), rawText(2, "\x03\x01a\x05\x02\x02\x0e\x06\x00"), rawText(3, "")}, "\x02\x02\x05\x09\x03\x01a\x05\x02\x02\x0e\x06\x00\x07\x00"},
	} {
		rawsAre(t, x.t, x.raws, api.OK)
		bytesAre(t, x.t, x.bytes, api.OK)
		// And wherever the message stands.
		rawsAre(t, with(msg(at(7, msg(), x.t)), rawNum(6, 0)), []api.Raw{rawNum(6, 0), rawText(7, ""), rawText(7, x.bytes)}, api.OK)
	}
}

// P11.1: as many entries, and trees under a tag, as may be.
func TestManyFields(t *testing.T) {
	x := msg()
	var want []api.Raw
	for tag := 1; tag <= api.MaxTag; tag++ {
		e := at(tag)
		for i := range api.MaxItems {
			e.Trees = append(e.Trees, num(tag-i))
			want = append(want, rawNum(tag, tag-i))
		}
		x.Entries = append(x.Entries, e)
	}
	rawsAre(t, x, want, api.OK)
	errorsAre(t, x, api.OK, api.ErrBig)
	errorsAre(t, msg(at(1, x)), api.ErrBig, api.ErrBig)
	rest := with(msg(), want...)
	rawsAre(t, rest, want, api.OK)
	errorsAre(t, rest, api.OK, api.ErrBig)
	errorsAre(t, msg(at(1, rest)), api.ErrBig, api.ErrBig)
}

// P11.1: what is no message, and what value's Check says no to.
func TestRefused(t *testing.T) {
	for _, x := range []api.Tree{
		{}, num(0), num(1), str(""), str("a"), {Kind: 4}, {Kind: -3}, {Kind: 1<<32 + 3}, {N: 1}, {Entries: []api.Entry{at(1, num(1))}},
		{Kind: api.TreeMsg, N: 1}, {Kind: api.TreeMsg, S: "a"}, {Kind: api.TreeNum, Entries: []api.Entry{at(1, num(1))}}, {Kind: api.TreeText, Rest: []api.Raw{rawNum(1, 1)}},
		msg(at(0, num(1))), msg(at(-1, num(1))), msg(at(501, num(1))), msg(at(2, num(1)), at(1, num(1))), msg(at(1, num(1)), at(1, num(1))), msg(at(1)), msg(at(1, num(1), str(""))), msg(at(1, api.Tree{})),
		msg(at(1, slices.Repeat([]api.Tree{num(1)}, api.MaxItems+1)...)), msg(at(1, api.Tree{Kind: api.TreeNum, S: "a"})), msg(at(1, api.Tree{Kind: api.TreeText, N: 1})),
		with(msg(), rawNum(0, 1)), with(msg(), rawNum(501, 1)), with(msg(), rawNum(2, 0), rawNum(1, 0)), with(msg(at(1, num(1))), rawNum(1, 0)), with(msg(), api.Raw{Tag: 1, Wire: 2}), with(msg(), api.Raw{Tag: 1, B: "a"}), with(msg(), rawText(1, strings.Repeat("a", api.MaxBytes+1))),
		wrap(msg(at(0, num(1))), 3), msg(at(1, msg(), with(msg(), rawNum(2, 0), rawNum(1, 0)))), msg(at(1, num(1)), at(2, msg(at(1, str("a"), num(1))))),
		ring(), ring(num(1)), msg(at(1, num(1)), at(2, ring())), wrap(msg(), 1000),
	} {
		errorsAre(t, x, api.ErrArg, api.ErrArg)
	}
}

// P11.1: as deep as may be, and one deeper.
func TestDepth(t *testing.T) {
	want := ""
	for n := range api.MaxDepth {
		bytesAre(t, wrap(msg(), n), want, api.OK)
		if n < api.MaxDepth-1 {
			rawsAre(t, msg(at(2, wrap(msg(), n))), []api.Raw{rawText(2, want)}, api.OK)
		}
		want = "\x03" + string(rune(len(want))) + want
	}
	for _, x := range []api.Tree{msg(), msg(at(1, num(1))), msg(at(2, str("a")), at(3, msg())), with(msg(), rawNum(1, 1))} {
		for n := range 2 * api.MaxDepth {
			err := deepest(n + value.Depth(x))
			errorsAre(t, wrap(x, n), err, err)
		}
	}
}

// deepest is how a call of a message of that depth ends.
func deepest(depth int) api.Errno {
	if depth > 10 {
		return api.ErrArg
	}
	return api.OK
}

// P11.1: texts of as many bytes as may be, and messages of as many.
func TestBig(t *testing.T) {
	full, more := msg(at(1, long(api.MaxBytes-3))), msg(at(1, long(api.MaxBytes-2)))
	rest := with(msg(), rawText(1, strings.Repeat("a", api.MaxBytes-3)))
	restMore := with(msg(), rawText(1, strings.Repeat("a", api.MaxBytes-2)))
	numbers := func(n int) api.Tree { return with(msg(), slices.Repeat([]api.Raw{rawNum(1, 0)}, n)...) }
	for i, x := range []struct {
		t              api.Tree
		raws, encoding api.Errno
	}{
		{full, api.OK, api.OK}, {more, api.OK, api.ErrBig}, {rest, api.OK, api.OK}, {restMore, api.OK, api.ErrBig},
		{msg(at(1, long(api.MaxBytes))), api.OK, api.ErrBig}, {msg(at(1, long(api.MaxBytes+1))), api.ErrBig, api.ErrBig}, {msg(at(1, long(1<<20))), api.ErrBig, api.ErrBig},
		{with(msg(), rawText(1, strings.Repeat("a", api.MaxBytes))), api.OK, api.ErrBig},
		// The text in a message within.
		{msg(at(1, msg(at(1, long(api.MaxBytes))))), api.ErrBig, api.ErrBig}, {msg(at(1, msg(at(1, long(api.MaxBytes+1))))), api.ErrBig, api.ErrBig}, {wrap(long(api.MaxBytes+1), api.MaxDepth), api.ErrBig, api.ErrBig},
		{msg(at(1, with(msg(), rawText(1, strings.Repeat("a", api.MaxBytes))))), api.ErrBig, api.ErrBig},
		// The message within has as many bytes as may be, and one more.
		{msg(at(1, full)), api.OK, api.ErrBig}, {msg(at(1, more)), api.ErrBig, api.ErrBig}, {msg(at(1, rest)), api.OK, api.ErrBig}, {msg(at(1, restMore)), api.ErrBig, api.ErrBig},
		{msg(at(1, msg(at(1, full)))), api.ErrBig, api.ErrBig}, {msg(at(1, msg(at(1, long(api.MaxBytes-6))))), api.OK, api.OK}, {msg(at(1, msg(at(1, long(api.MaxBytes-5))))), api.OK, api.ErrBig},
		// Of many small fields.
		{numbers(api.MaxBytes / 2), api.OK, api.OK}, {numbers(api.MaxBytes/2 + 1), api.OK, api.ErrBig}, {msg(at(1, numbers(api.MaxBytes/2))), api.OK, api.ErrBig}, {msg(at(1, numbers(api.MaxBytes/2+1))), api.ErrBig, api.ErrBig},
		{msg(at(1, long(2000)), at(2, long(2090))), api.OK, api.OK}, {msg(at(1, long(2000)), at(2, long(2091))), api.OK, api.ErrBig},
		{msg(at(1, msg(at(1, long(2000)), at(2, long(2090))))), api.OK, api.ErrBig}, {msg(at(1, msg(at(1, long(2000)), at(2, long(2091))))), api.ErrBig, api.ErrBig},
		{with(msg(at(1, long(2000))), rawText(2, strings.Repeat("b", 2090))), api.OK, api.OK}, {with(msg(at(1, long(2000))), rawText(2, strings.Repeat("b", 2091))), api.OK, api.ErrBig},
		// Not the first, but the last of several.
		{msg(at(1, num(1)), at(2, str("a"), str("b"), long(api.MaxBytes+1)), at(3, num(1))), api.ErrBig, api.ErrBig}, {msg(at(2, msg(), full, more), at(3, num(1))), api.ErrBig, api.ErrBig}, {msg(at(2, full, full, full), at(500, msg(), full)), api.OK, api.ErrBig},
	} {
		errorsAre(t, x.t, x.raws, x.encoding)
		if l, e := encode.Raws(x.t); e == api.OK {
			want, _ := raws(x.t)
			if !slices.Equal(l, want) {
				t.Fatal(i, short(l))
			}
		}
	}
	if n := encode.Len(full); n != api.MaxBytes {
		t.Fatal(n)
	}
}

// R2: of both errors ErrArg is told, wherever each stands.
func TestFirstError(t *testing.T) {
	big := msg(at(1, long(api.MaxBytes+1)))
	for _, x := range []api.Tree{
		long(api.MaxBytes + 1), {Kind: api.TreeMsg, N: 1, Entries: big.Entries}, {Kind: api.TreeNum, Entries: big.Entries}, {Entries: big.Entries},
		msg(at(1, long(api.MaxBytes+1)), at(501, num(1))), msg(at(1, big), at(2)), msg(at(1, big), at(2, num(1), str(""))), msg(at(1, num(1)), at(1, big)), msg(at(0, big)), msg(at(1, big, num(1))),
		with(big, rawNum(1, 0)), with(big, rawNum(501, 0)), with(big, rawNum(3, 0), rawNum(2, 0)), with(big, rawText(2, strings.Repeat("a", api.MaxBytes+1))),
		msg(at(1, big, msg(at(0, num(1))))), msg(at(1, msg(at(0, num(1))), big)), msg(at(1, big), at(2, ring())),
		wrap(big, api.MaxDepth), wrap(long(api.MaxBytes+1), api.MaxDepth+1), msg(at(1, big, wrap(msg(), api.MaxDepth-1))),
	} {
		errorsAre(t, x, api.ErrArg, api.ErrArg)
	}
}

// P11.1: against plain recursion, and Encode against wire's PutAll of Raws.
func TestAgainstReference(t *testing.T) {
	r := rand.New(rand.NewSource(1))
	seen := map[[2]api.Errno]int{}
	for range 6000 {
		x := someMessage(r, r.Intn(5))
		for range r.Intn(3) {
			spoil(r, &x)
		}
		l, e := raws(x)
		b, f := bytesOf(x)
		rawsAre(t, x, l, e)
		bytesAre(t, x, string(b), f)
		seen[[2]api.Errno{e, f}]++
		if e != api.OK {
			continue
		}
		if put, err := wire.PutAll(l); string(put) != string(b) || err != f {
			t.Fatalf("PutAll of Raws(%s): %v, Encode's error %v", short(x), err, f)
		}
		if got, err := wire.Get(b); f == api.OK && (err != api.OK || !slices.Equal(got, l)) {
			t.Fatalf("wire's Get of Encode(%s): %s, %v", short(x), short(got), err)
		}
	}
	for _, k := range [][2]api.Errno{{api.OK, api.OK}, {api.OK, api.ErrBig}, {api.ErrBig, api.ErrBig}, {api.ErrArg, api.ErrArg}} {
		if seen[k] < 100 {
			t.Fatal(seen)
		}
	}
}
