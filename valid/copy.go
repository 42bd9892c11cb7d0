package valid

import (
	"slices"

	"concordat/api"
)

// place is where a list stands.
type place[T any] struct {
	first *T
	count int
}

func placeOf[T any](l []T) place[T] {
	if len(l) == 0 {
		return place[T]{}
	}
	return place[T]{first: &l[0], count: len(l)}
}

// identity is by what a tree is known again: trees of one identity are one tree in several places.
type identity struct {
	kind, n int
	s       string
	entries place[api.Entry]
	rest    place[api.Raw]
}

func identityOf(t api.Tree) identity {
	return identity{kind: t.Kind, n: t.N, s: t.S, entries: placeOf(t.Entries), rest: placeOf(t.Rest)}
}

// Bare is a tree without what is not known of it.
func Bare(t api.Tree) api.Tree {
	c := copying{bare: true, made: map[identity]api.Tree{}}
	out := c.tree(t)
	c.fill()
	return out
}

// copies are trees as they are, in memory of their own.
func copies(l []api.Tree) []api.Tree {
	c := copying{made: map[identity]api.Tree{}}
	out := c.trees(l)
	c.fill()
	return out
}

// copying makes trees anew. What stands in several places is made once, and is one there, too: so it ends, though a tree may stand in itself. No call goes down by itself: a tree may be deeper than there is room for calls.
type copying struct {
	bare bool // without any Rest
	made map[identity]api.Tree
	left []unfilled
}

// unfilled are entries that are made, but for what is in them.
type unfilled struct {
	from, to []api.Entry
}

// tree is t made anew, its entries not filled yet.
func (c *copying) tree(t api.Tree) api.Tree {
	out := api.Tree{Kind: t.Kind, N: t.N, S: t.S}
	if c.bare {
		t.Rest = nil
	}
	if len(t.Entries) == 0 && len(t.Rest) == 0 {
		return out
	}
	at := identityOf(t)
	if known, ok := c.made[at]; ok {
		return known
	}
	if len(t.Entries) > 0 {
		out.Entries = make([]api.Entry, len(t.Entries))
		c.left = append(c.left, unfilled{from: t.Entries, to: out.Entries})
	}
	if len(t.Rest) > 0 {
		out.Rest = slices.Clone(t.Rest)
	}
	c.made[at] = out
	return out
}

func (c *copying) trees(l []api.Tree) []api.Tree {
	if len(l) == 0 {
		return nil
	}
	out := make([]api.Tree, len(l))
	for i, t := range l {
		out[i] = c.tree(t)
	}
	return out
}

// fill fills what is made, and what is made by that.
func (c *copying) fill() {
	for len(c.left) > 0 {
		next := c.left[len(c.left)-1]
		c.left = c.left[:len(c.left)-1]
		for i, e := range next.from {
			next.to[i] = api.Entry{Tag: e.Tag, Trees: c.trees(e.Trees)}
		}
	}
}
