package value

import (
	"cmp"
	"slices"

	"concordat/api"
	"concordat/wire"
)

// deepest is the greatest depth that is told as it is.
const deepest = 100

// Depth is how deep a tree is.
func Depth(t api.Tree) int {
	depth := 0
	for level := messages([]api.Tree{t}); len(level) > 0 && depth <= deepest; level = messages(inside(level)) {
		depth++
	}
	return depth
}

// Check tells whether a tree may be.
func Check(t api.Tree) bool {
	// The depth comes first: a tree that stands in itself has no last level.
	if Depth(t) > api.MaxDepth {
		return false
	}
	for level := []api.Tree{t}; len(level) > 0; level = inside(messages(level)) {
		if slices.ContainsFunc(level, isWrong) {
			return false
		}
	}
	return true
}

// isWrong tells whether a tree may not be, whatever the trees in it are.
func isWrong(t api.Tree) bool {
	switch t.Kind {
	case api.TreeNum:
		return t.S != "" || len(t.Entries) > 0 || len(t.Rest) > 0
	case api.TreeText:
		return t.N != 0 || len(t.Entries) > 0 || len(t.Rest) > 0
	case api.TreeMsg:
		return t.N != 0 || t.S != "" || !entriesMayBe(t.Entries) || !restMayBe(t.Rest, t.Entries)
	}
	return true
}

func entriesMayBe(l []api.Entry) bool {
	ahead := 0
	for _, e := range l {
		if e.Tag <= ahead || e.Tag > api.MaxTag || !ofOneKind(e.Trees) {
			return false
		}
		ahead = e.Tag
	}
	return true
}

// ofOneKind tells whether there are as many trees as a tag may have, all of one kind.
func ofOneKind(l []api.Tree) bool {
	if len(l) < 1 || len(l) > api.MaxItems {
		return false
	}
	return !slices.ContainsFunc(l, func(t api.Tree) bool { return t.Kind != l[0].Kind })
}

// restMayBe tells whether a message whose entries' tags rise may have this rest.
func restMayBe(l []api.Raw, entries []api.Entry) bool {
	for _, r := range l {
		if !wire.Check(r) || hasTag(entries, r.Tag) {
			return false
		}
	}
	return wire.Rising(l)
}

func hasTag(l []api.Entry, tag int) bool {
	_, ok := slices.BinarySearchFunc(l, tag, func(e api.Entry, tag int) int { return cmp.Compare(e.Tag, tag) })
	return ok
}
