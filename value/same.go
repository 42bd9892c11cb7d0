package value

import (
	"slices"

	"concordat/api"
)

// sides are two trees' entries, as many here as there.
type sides struct {
	a, b []api.Entry
}

// Same tells whether two trees are the same.
func Same(a, b api.Tree) bool {
	if !alike(a, b) {
		return false
	}
	// No call goes down by itself: a tree that Check says no to may be deeper than there is room for calls.
	left := []sides{{a.Entries, b.Entries}}
	seen := map[[2]place]struct{}{}
	for len(left) > 0 {
		next := left[len(left)-1]
		left = left[:len(left)-1]
		at := [2]place{placeOf(next.a), placeOf(next.b)}
		if _, ok := seen[at]; ok {
			continue
		}
		seen[at] = struct{}{}
		deeper, ok := compare(next)
		if !ok {
			return false
		}
		left = append(left, deeper...)
	}
	return true
}

// alike tells whether two trees are the same but for what is in their entries.
func alike(a, b api.Tree) bool {
	return a.Kind == b.Kind && a.N == b.N && a.S == b.S &&
		len(a.Entries) == len(b.Entries) && slices.Equal(a.Rest, b.Rest)
}

// compare are the entries that are one level down, and still to be held against each other; false, if these here are not the same.
func compare(s sides) ([]sides, bool) {
	var deeper []sides
	for i, a := range s.a {
		b := s.b[i]
		if a.Tag != b.Tag || !slices.EqualFunc(a.Trees, b.Trees, alike) {
			return nil, false
		}
		for j, t := range a.Trees {
			if len(t.Entries) > 0 {
				deeper = append(deeper, sides{t.Entries, b.Trees[j].Entries})
			}
		}
	}
	return deeper, true
}
