package value

import "concordat/api"

// place is where a list of entries stands. Trees may have one list in common, and a list may even stand in itself: by its place it is known again, and not looked into twice in one level (by Same: twice beside the same list), so that the walk ends, and soon.
type place struct {
	first *api.Entry
	count int
}

func placeOf(l []api.Entry) place {
	if len(l) == 0 {
		return place{}
	}
	return place{first: &l[0], count: len(l)}
}

// messages are the entries of those trees that are messages, no list twice.
func messages(l []api.Tree) [][]api.Entry {
	var out [][]api.Entry
	seen := map[place]struct{}{}
	for _, t := range l {
		if t.Kind != api.TreeMsg {
			continue
		}
		at := placeOf(t.Entries)
		if _, ok := seen[at]; !ok {
			seen[at] = struct{}{}
			out = append(out, t.Entries)
		}
	}
	return out
}

// inside are all trees of these entries.
func inside(level [][]api.Entry) []api.Tree {
	var out []api.Tree
	for _, entries := range level {
		for _, e := range entries {
			out = append(out, e.Trees...)
		}
	}
	return out
}
