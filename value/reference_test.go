package value_test

import (
	"math/rand"
	"reflect"

	"concordat/api"
)

// depthOf is what Depth must answer of a tree that does not stand in itself.
func depthOf(t api.Tree) int {
	if t.Kind != 3 {
		return 0
	}
	depth := 1
	for _, e := range t.Entries {
		for _, x := range e.Trees {
			depth = max(depth, 1+depthOf(x))
		}
	}
	return min(depth, 101)
}

// mayBe is what Check must answer of a tree that does not stand in itself.
func mayBe(t api.Tree) bool { return depthOf(t) <= 10 && partsMayBe(t) }

func partsMayBe(t api.Tree) bool {
	bare := len(t.Entries) == 0 && len(t.Rest) == 0
	switch t.Kind {
	case 1:
		return t.S == "" && bare
	case 2:
		return t.N == 0 && bare
	case 3:
		return t.N == 0 && t.S == "" && messageMayBe(t)
	}
	return false
}

func messageMayBe(t api.Tree) bool {
	tags := map[int]bool{}
	last := 0
	for _, e := range t.Entries {
		if e.Tag < 1 || e.Tag > 500 || e.Tag <= last || len(e.Trees) == 0 || len(e.Trees) > 64 {
			return false
		}
		tags[e.Tag], last = true, e.Tag
		for _, x := range e.Trees {
			if x.Kind != e.Trees[0].Kind || !partsMayBe(x) {
				return false
			}
		}
	}
	last = 0
	for _, r := range t.Rest {
		text := r.Wire == 1 && r.N == 0 && len(r.B) <= 4096
		if r.Tag < 1 || r.Tag > 500 || r.Tag < last || tags[r.Tag] || !text && (r.Wire != 0 || r.B != "") {
			return false
		}
		last = r.Tag
	}
	return true
}

// bare is t in memory of its own, with nil for every empty list: they are one.
func bare(t api.Tree) api.Tree {
	var entries []api.Entry
	for _, e := range t.Entries {
		var trees []api.Tree
		for _, x := range e.Trees {
			trees = append(trees, bare(x))
		}
		entries = append(entries, api.Entry{Tag: e.Tag, Trees: trees})
	}
	t.Entries = entries
	t.Rest = append([]api.Raw(nil), t.Rest...)
	return t
}

// equal is what Same must answer of trees that do not stand in themselves.
func equal(a, b api.Tree) bool { return reflect.DeepEqual(bare(a), bare(b)) }

// randomTree is a tree that may be, at most depth deep.
func randomTree(r *rand.Rand, depth int) api.Tree {
	kind := 1 + r.Intn(3)
	if depth == 0 {
		kind = 1 + r.Intn(2)
	}
	return randomKind(r, kind, depth)
}

func randomKind(r *rand.Rand, kind, depth int) api.Tree {
	switch kind {
	case 1:
		return num(pick(r, -1, 0, 1, 7, 1<<40, -1<<63, 1<<63-1))
	case 2:
		return str(pick(r, "", "a", "\x00", "\xff\xfe", "größe"))
	}
	t := msg()
	for tag := pick(r, 1, 2, 498); tag <= 500; tag += pick(r, 1, 1, 1, 2, 150, 400) {
		switch r.Intn(3) {
		case 0:
			t.Rest = append(t.Rest, randomRest(r, tag)...)
		case 1:
			if len(t.Entries) < 3 {
				t.Entries = append(t.Entries, at(tag, randomTrees(r, depth-1)...))
			}
		}
	}
	return t
}

// randomTrees are a few trees of one kind.
func randomTrees(r *rand.Rand, depth int) []api.Tree {
	l := []api.Tree{randomTree(r, depth)}
	for r.Intn(3) == 0 {
		l = append(l, randomKind(r, l[0].Kind, depth))
	}
	return l
}

func randomRest(r *rand.Rand, tag int) []api.Raw {
	l := []api.Raw{{Tag: tag, N: pick(r, 0, -1, 1<<50)}}
	for r.Intn(3) == 0 {
		l = append(l, api.Raw{Tag: tag, Wire: 1, B: pick(r, "", "a", "\xff")})
	}
	return l
}

func pick[T any](r *rand.Rand, l ...T) T { return l[r.Intn(len(l))] }

// spoil turns one part of t, or of a tree in it.
func spoil(r *rand.Rand, t *api.Tree) {
	if e := spoilt(r, t.Entries); e != nil && r.Intn(4) > 0 {
		if x := spoilt(r, e.Trees); x != nil && r.Intn(4) > 0 {
			spoil(r, x)
			return
		}
		spoilEntry(r, e)
		return
	}
	switch r.Intn(6) {
	case 0:
		t.Kind = pick(r, -1, 0, 1, 2, 3, 4, 1<<32+1)
	case 1:
		t.N += pick(r, 1, -1, 1<<32)
	case 2:
		t.S += pick(r, "a", "\x00")
	case 3:
		t.Entries = append(t.Entries, at(pick(r, -1, 0, 1, 2, 499, 500, 501), randomTrees(r, 2)...))
	case 4:
		t.Rest = append(t.Rest, api.Raw{Tag: pick(r, -1, 0, 1, 2, 499, 500, 501), Wire: pick(r, 0, 0, 1, 2), N: pick(r, 0, 1), B: pick(r, "", "", "b")})
	case 5:
		if x := spoilt(r, t.Rest); x != nil {
			*x = api.Raw{Tag: x.Tag + pick(r, -1, 0, 1), Wire: x.Wire ^ r.Intn(2), N: x.N ^ r.Intn(2), B: x.B + pick(r, "", "b")}
		}
	}
}

func spoilEntry(r *rand.Rand, e *api.Entry) {
	switch r.Intn(4) {
	case 0:
		e.Tag += pick(r, -1, 1, 500)
	case 1:
		e.Trees = nil
	case 2:
		e.Trees = append(e.Trees, randomTree(r, 2))
	case 3:
		for len(e.Trees) > 0 && len(e.Trees) <= 64 {
			e.Trees = append(e.Trees, e.Trees...)
		}
	}
}

// spoilt is one of l; nil, if there is none.
func spoilt[T any](r *rand.Rand, l []T) *T {
	if len(l) == 0 {
		return nil
	}
	return &l[r.Intn(len(l))]
}
