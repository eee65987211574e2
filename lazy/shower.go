package lazy

import "midden/api"

// shower makes the tree of what is shown in one call.
type shower struct {
	run
	shown int
}

// tree shows a thing to a depth. Where the run does not come to rest, what it tells is nothing.
func (s *shower) tree(t *thing, depth int) api.Tree {
	if depth == 0 || s.shown == api.MaxShown {
		return api.Tree{Kind: api.SCut}
	}
	s.shown++
	if !s.known(t) {
		return api.Tree{}
	}
	t = s.of
	switch t.is {
	case number:
		return api.Tree{Kind: api.SInt, N: t.n}
	case constructor:
		return s.whole(api.Tree{Kind: api.SCon, Name: s.m.cons[t.n]}, t.with, depth)
	case variable:
		return s.whole(api.Tree{Kind: api.SRef}, []*thing{t.of}, depth)
	case array:
		return s.whole(api.Tree{Kind: api.SArr}, itemsOf(t), depth)
	}
	return api.Tree{Kind: api.SFun}
}

// whole makes a tree whole by those of its things.
func (s *shower) whole(tree api.Tree, things []*thing, depth int) api.Tree {
	for _, t := range things {
		tree.Kids = append(tree.Kids, s.tree(t, depth-1))
		if s.next == fail || s.next == starve {
			return api.Tree{}
		}
	}
	return tree
}

// itemsOf tells the items that an array has now, whatever is put while they are shown.
func itemsOf(t *thing) []*thing {
	var all []*thing
	for i := range t.n {
		all = append(all, t.item(i))
	}
	return all
}
