package encode_test

import (
	"math/rand"
	"slices"
	"testing"

	"concordat/api"
	"concordat/encode"
)

// R1: trees that are not to be written out, because they stand in too many places.

// shared is last in n messages, in each of which one stands count times: they are one in memory.
func shared(last api.Tree, n, count int) api.Tree {
	for range n {
		last = msg(at(1, slices.Repeat([]api.Tree{last}, count)...))
	}
	return last
}

// everywhere is a message with l under each tag but the last.
func everywhere(l ...api.Tree) api.Tree {
	x := msg()
	for tag := 1; tag < api.MaxTag; tag++ {
		x.Entries = append(x.Entries, at(tag, l...))
	}
	return x
}

func TestSharedTreesEnd(t *testing.T) {
	errorsAre(t, shared(msg(), 1, api.MaxItems), api.OK, api.OK)
	errorsAre(t, shared(msg(), 2, api.MaxItems), api.OK, api.ErrBig)
	for n := 3; n < api.MaxDepth; n++ {
		errorsAre(t, shared(msg(), n, api.MaxItems), api.ErrBig, api.ErrBig)
	}
	errorsAre(t, shared(msg(), api.MaxDepth, api.MaxItems), api.ErrArg, api.ErrArg)
	// In 2^9 places.
	x := shared(msg(at(2, num(1))), api.MaxDepth-1, 2)
	b, e := bytesOf(x)
	bytesAre(t, x, string(b), e)
}

// Many small messages in each of many, in each of many: to make the bytes of each wherever it stands would take too long.
func TestWideSharedTreesEnd(t *testing.T) {
	full := shared(msg(), 3, 12)
	x := everywhere(slices.Repeat([]api.Tree{full}, api.MaxItems)...)
	l, e := encode.Raws(x)
	if e != api.OK || len(l) != (api.MaxTag-1)*api.MaxItems {
		t.Fatal(len(l), e)
	}
	b, e := bytesOf(full)
	if e != api.OK {
		t.Fatal(e)
	}
	inside := string(b)
	for i, r := range l {
		if r != rawText(1+i/api.MaxItems, inside) {
			t.Fatal(i, short(r))
		}
	}
	errorsAre(t, x, api.OK, api.ErrBig)
	// The one that is too big comes last, at each depth.
	for range api.MaxDepth - 5 {
		y := everywhere(slices.Repeat([]api.Tree{full}, api.MaxItems)...)
		y.Entries = append(y.Entries, at(api.MaxTag, x))
		x = y
		errorsAre(t, x, api.ErrBig, api.ErrBig)
	}
}

// Messages that have a list in common, and are not the same, are not taken for one another.
func TestOneMemory(t *testing.T) {
	l := []api.Entry{at(1, num(1)), at(2, msg(at(3, num(2)))), at(3, str("a"))}
	rest := []api.Raw{rawNum(4, 1), rawNum(5, 1), rawText(5, "b")}
	var trees []api.Tree
	for from := range len(l) {
		for to := from; to <= len(l); to++ {
			for a := range len(rest) {
				for b := a; b <= len(rest); b++ {
					trees = append(trees, with(msg(l[from:to]...), rest[a:b]...))
				}
			}
		}
	}
	x := msg()
	for i, y := range trees {
		if i%60 == 0 {
			x.Entries = append(x.Entries, at(1+i/60))
		}
		last := &x.Entries[len(x.Entries)-1]
		last.Trees = append(last.Trees, y)
	}
	want, e := raws(x)
	rawsAre(t, x, want, e)
	b, e := bytesOf(x)
	bytesAre(t, x, string(b), e)
	if e != api.OK || len(want) != len(trees) {
		t.Fatal(e, len(want), len(trees))
	}
}

// R3: what is answered shares no memory with what is handed in, nor with another answer; what is handed in is not kept.

// scribble writes over a list and its spare room.
func scribble[T any](l []T, x T) {
	l = l[:cap(l)]
	for i := range l {
		l[i] = x
	}
}

// scribbleTree writes over all of a tree's lists.
func scribbleTree(x api.Tree) {
	for _, e := range x.Entries {
		for _, y := range e.Trees {
			scribbleTree(y)
		}
		scribble(e.Trees, num(77))
	}
	scribble(x.Entries, at(77, num(77)))
	scribble(x.Rest, rawNum(77, 77))
}

func memoryTrees() []api.Tree {
	roomy := api.Tree{Kind: api.TreeMsg, Entries: append(make([]api.Entry, 0, 5), at(3, num(1))), Rest: append(make([]api.Raw, 0, 5), rawNum(2, 1), rawNum(4, 1))}
	l := []api.Tree{
		msg(), with(msg(), rawNum(1, 1), rawText(2, "a")), roomy, {Kind: api.TreeMsg, Rest: append(make([]api.Raw, 0, 9), rawNum(2, 1))}, {Kind: api.TreeMsg, Entries: make([]api.Entry, 0, 3), Rest: make([]api.Raw, 0, 3)},
		msg(at(1, plain(roomy), msg())), with(msg(at(1, num(1)), at(2, str("a"))), rawNum(3, 0)), with(msg(at(3, num(1))), rawNum(1, 0)),
	}
	r := rand.New(rand.NewSource(4))
	for len(l) < 1000 {
		l = append(l, someMessage(r, 3))
	}
	return l
}

func TestAnswersAreNew(t *testing.T) {
	for _, x := range memoryTrees() {
		before := plain(x)
		wantRaws, e := raws(x)
		wantBytes, f := bytesOf(x)
		l, _ := encode.Raws(x)
		b, _ := encode.Encode(x)
		l2, _ := encode.Raws(x)
		b2, _ := encode.Encode(x)
		scribble(l, rawNum(77, 77))
		scribble(b, 77)
		if !equal(x, before) {
			t.Fatalf("%s is now %s", short(before), short(x))
		}
		if !slices.Equal(l2, wantRaws) || string(b2) != string(wantBytes) {
			t.Fatalf("two answers of %s have memory in common", short(x))
		}
		rawsAre(t, x, wantRaws, e)
		bytesAre(t, x, string(wantBytes), f)
		scribbleTree(x)
		if !slices.Equal(l2, wantRaws) || string(b2) != string(wantBytes) {
			t.Fatalf("an answer of %s has its memory", short(before))
		}
	}
}

// The spare room of what is handed in is not written to.
func TestSpareRoomStays(t *testing.T) {
	entries := []api.Entry{at(3, num(1), num(2)), at(9, num(9))}
	rest := []api.Raw{rawNum(2, 1), rawNum(4, 1), rawNum(9, 9)}
	trees := entries[0].Trees
	entries[0].Trees = trees[:1]
	x := api.Tree{Kind: api.TreeMsg, Entries: entries[:1], Rest: rest[:2]}
	rawsAre(t, x, []api.Raw{rawNum(2, 1), rawNum(3, 1), rawNum(4, 1)}, api.OK)
	bytesAre(t, x, "\x04\x02\x06\x02\x08\x02", api.OK)
	if rest[2] != rawNum(9, 9) || entries[1].Tag != 9 || trees[1].N != 2 {
		t.Fatal(rest, entries, trees)
	}
}

// R4: what was asked before is not to be told.
func TestCallsStandAlone(t *testing.T) {
	x := msg(at(1, msg(at(1, num(1)))))
	for n := range 100 {
		x.Entries[0].Trees[0].Entries[0].Trees[0].N = n
		b, e := bytesOf(x)
		bytesAre(t, x, string(b), e)
	}
}
