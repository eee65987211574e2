package collect_test

import (
	"slices"
	"testing"

	"midden/api"
	"midden/collect"
	"midden/graph"
	"midden/heap"
)

// The chapter's words written out again: what a heap was ahead of a collection, where each pointer is passed over to, and what must hold behind it.

// place names a space.
type place struct{ gen, step int }

// closure is one as it stood.
type closure struct {
	head api.Head
	ptrs []int
	nons []uint64
	in   place
}

// shot is all that a heap was at a time.
type shot struct {
	config api.Config
	all    map[int]closure
	lists  [][]int
	left   int
	blocks int
}

// shotOf takes one of a heap in which no collection is under way.
func shotOf(h *heap.Heap) shot {
	s := shot{config: h.Config(), all: map[int]closure{}, left: h.Left()}
	for gen := range s.config.Gens {
		s.lists = append(s.lists, h.Old(gen))
		s.blocks += h.Blocks(gen)
		for step := range api.MaxSteps {
			for _, at := range h.Closures(gen, step) {
				s.all[at] = closureOf(h, at, place{gen, step})
			}
		}
	}
	return s
}

func closureOf(h *heap.Heap, at int, in place) closure {
	x, _ := h.Head(at)
	c := closure{head: x, in: in}
	for i := range x.Ptrs {
		p, _ := h.Ptr(at, i)
		c.ptrs = append(c.ptrs, p)
	}
	for i := range x.Nons {
		w, _ := h.Non(at, i)
		c.nons = append(c.nons, w)
	}
	return c
}

// sorted tells the addresses of a shot, rising.
func (s shot) sorted() []int {
	var l []int
	for at := range s.all {
		l = append(l, at)
	}
	slices.Sort(l)
	return l
}

// on tells where a KInd that points to something points, else 0.
func (s shot) on(p int) int {
	if x := s.all[p]; x.head.Kind == api.KInd {
		return x.ptrs[0]
	}
	return 0
}

// ring tells the KInds that go round with one, or nothing.
func (s shot) ring(p int) []int {
	var l []int
	for q := p; q != 0 && s.on(q) != 0; q = s.on(q) {
		if slices.Contains(l, q) {
			return nil
		}
		l = append(l, q)
		if s.on(q) == p {
			return l
		}
	}
	return nil
}

// past goes on over KInds, and tells of a ring the one whose address is least.
func (s shot) past(p int) int {
	met := map[int]bool{}
	for s.on(p) != 0 && !met[p] {
		met[p] = true
		p = s.on(p)
	}
	if s.on(p) != 0 {
		return slices.Min(s.ring(p))
	}
	return p
}

// pass is a pointer that is passed over.
func (s shot) pass(p, hops int) int {
	for {
		p = s.past(p)
		x := s.all[p]
		if x.head.Kind != api.KSel || hops == 0 {
			return p
		}
		hops--
		of := s.all[s.pass(x.ptrs[0], hops)]
		if of.head.Kind != api.KCon || of.head.Info != x.head.Info || x.nons[0] >= uint64(len(of.ptrs)) || of.ptrs[x.nons[0]] == 0 {
			return p
		}
		p = of.ptrs[x.nons[0]]
	}
}

// young tells whether a closure is of a generation that is collected.
func (s shot) young(at, gen int) bool { return s.all[at].in.gen <= gen }

// listed tells whether a closure stands in a list.
func (s shot) listed(at int) bool {
	return slices.Contains(s.lists[s.all[at].in.gen], at)
}

// next is where heap.Evacuate puts what was in a space.
func (s shot) next(in place, least int) place {
	steps := s.config.Steps
	if in.gen == s.config.Gens-1 {
		steps = 1
	}
	if in.step+1 < steps {
		in.step++
	} else if in.gen+1 < s.config.Gens {
		in = place{in.gen + 1, 0}
	}
	if least > in.gen {
		in = place{least, 0}
	}
	return in
}

// needed tells how many blocks must be free for it, by P20.6, and whether that promise holds for what is young.
func (s shot) needed(gen int) (int, bool) {
	words := 0
	for _, x := range s.all {
		n := 1 + x.head.Ptrs + x.head.Nons
		if x.in.gen <= gen {
			words += n
			if n > api.BlockWords {
				return 0, false
			}
		}
	}
	return (2*words+63)/64 + 5*((s.config.Gens-1)*s.config.Steps+1), true
}

// hold is what is held against what: a heap ahead of a collection and behind it, and for each closure that is still there what it became.
type hold struct {
	t           *testing.T
	what        string
	gen         int
	was, is     shot
	to, from    map[int]int
	left        [][2]int
	roots, news []int
}

// whole stands for a KInd of a ring, or for an old one that leads into a ring: for all of it.
func whole(s shot, p int) int {
	if s.on(s.past(p)) != 0 {
		return s.past(p)
	}
	return p
}

// pair says that a pointer to a became one to b.
func (x *hold) pair(a, b int) {
	x.t.Helper()
	a, b = whole(x.was, a), whole(x.is, b)
	if a == 0 && b == 0 {
		return
	}
	to, ok := x.to[a]
	from, ok2 := x.from[b]
	if a == 0 || b == 0 || ok != ok2 || ok && (to != b || from != a) {
		x.t.Fatalf("%s: %d became %d; but %d is %d, and %d was %d", x.what, a, b, a, to, b, from)
	}
	if !ok {
		x.to[a], x.from[b] = b, a
		x.left = append(x.left, [2]int{a, b})
	}
}

// pairPointers holds the pointers of what became another one to it.
func (x *hold) pairPointers(a, b int) {
	x.t.Helper()
	c, d := x.was.all[a], x.is.all[b]
	if x.was.ring(a) != nil {
		if x.is.ring(b) == nil {
			x.t.Fatalf("%s: a ring of KInds became a %v", x.what, d.head)
		}
		return
	}
	if c.head != d.head || !slices.Equal(c.nons, d.nons) {
		x.t.Fatalf("%s: %v %v became %v %v", x.what, c.head, c.nons, d.head, d.nons)
	}
	for i, p := range c.ptrs {
		if x.was.young(a, x.gen) || x.was.listed(a) {
			p = x.was.pass(p, x.was.config.Hops)
		}
		x.pair(p, d.ptrs[i])
	}
}

// closures holds each closure that is there to what it was: there are no others but the old ones and what is reached.
func (x *hold) closures() {
	x.t.Helper()
	for _, at := range x.was.sorted() {
		if x.was.young(at, x.gen) {
			continue
		}
		if x.was.all[at].in != x.is.all[at].in || x.was.all[at].head != x.is.all[at].head {
			x.t.Fatalf("%s: the old closure %d was %v; is %v", x.what, at, x.was.all[at], x.is.all[at])
		}
		x.pair(at, at)
	}
	for i, at := range x.roots {
		x.pair(x.was.pass(at, x.was.config.Hops), x.news[i])
	}
	for len(x.left) > 0 {
		a, b := x.left[0][0], x.left[0][1]
		x.left = x.left[1:]
		x.pairPointers(a, b)
	}
	for _, at := range x.is.sorted() {
		old := x.was.all[at].in.gen > x.gen
		if _, ok := x.from[at]; !ok && !old && x.is.ring(at) == nil {
			x.t.Fatalf("%s: %d is still there: %v", x.what, at, x.is.all[at])
		}
	}
}

// ages holds where each young one is to some pointer to it by which it may have moved.
func (x *hold) ages() {
	x.t.Helper()
	leasts := map[int][]int{}
	for _, at := range x.news {
		leasts[at] = append(leasts[at], 0)
	}
	for _, y := range x.is.all {
		for _, p := range y.ptrs {
			if y.head.Kind == api.KRef || y.head.Kind == api.KArr {
				leasts[p] = append(leasts[p], 0)
			} else {
				leasts[p] = append(leasts[p], y.in.gen)
			}
		}
	}
	for a, b := range x.to {
		if !x.was.young(a, x.gen) || x.was.ring(a) != nil {
			continue
		}
		in := x.is.all[b].in
		if !slices.ContainsFunc(leasts[b], func(least int) bool { return x.was.next(x.was.all[a].in, least) == in }) {
			x.t.Fatalf("%s: %v went to %v, from pointers of %v", x.what, x.was.all[a], in, leasts[b])
		}
	}
}

// checkLists holds the lists to what points to younger ones.
func checkLists(t *testing.T, what string, s shot) {
	t.Helper()
	for gen, l := range s.lists {
		var must []int
		for _, at := range s.sorted() {
			x := s.all[at]
			if x.in.gen == gen && slices.ContainsFunc(x.ptrs, func(p int) bool { return p != 0 && s.all[p].in.gen < gen }) {
				must = append(must, at)
			}
		}
		if !slices.Equal(l, must) {
			t.Fatalf("%s: the list of generation %d is %v; want %v", what, gen, l, must)
		}
	}
}

// nothingMore holds a collection of all generations to what the roots reach.
func (x *hold) nothingMore(reached api.Graph) {
	x.t.Helper()
	if len(reached.Nodes) != len(x.is.all) {
		x.t.Fatalf("%s: the roots reach %d closures, and there are %d", x.what, len(reached.Nodes), len(x.is.all))
	}
	for at := range x.is.all {
		if x.is.on(at) != 0 && x.is.ring(at) == nil {
			x.t.Fatalf("%s: there is a KInd that points to something: %d", x.what, at)
		}
	}
}

// roomy is a list with spare room, in which something stands.
func roomy(l []int) []int {
	return append(slices.Clone(l), -77, -78)[:len(l)]
}

func decode(t *testing.T, h *heap.Heap, roots []int) api.Graph {
	t.Helper()
	g, e := graph.Decode(h, roots)
	expect(t, "Decode", e, api.OK)
	return g
}

func expect(t *testing.T, what string, got, want api.Errno) {
	t.Helper()
	if got != want {
		t.Fatalf("%s: error %d; want %d", what, int(got), int(want))
	}
}

// check does a collection that may be done, and holds it to all that the chapter says. It tells the new roots, or that there was no room.
func check(t *testing.T, what string, h *heap.Heap, gen int, roots ...int) ([]int, bool) {
	t.Helper()
	was := shotOf(h)
	need, holds := was.needed(gen)
	short := graph.Short(decode(t, h, roots))
	handed := roomy(roots)
	news, e := collect.Run(h, gen, handed)
	if !slices.Equal(handed[:len(handed)+2], append(slices.Clone(roots), -77, -78)) {
		t.Fatalf("%s: the roots are other ones behind it: %v", what, handed)
	}
	if e == api.ErrFull && (!holds || was.left < need) {
		_, _, dead := h.Where(1)
		if expect(t, what+": behind want of room", dead, api.ErrDead); len(news) > 0 {
			t.Fatalf("%s: there are roots beside an error: %v", what, news)
		}
		return nil, false
	}
	expect(t, what+": Run", e, api.OK)
	expect(t, what+": Store behind Run", h.Store(0, 0, 0), api.ErrWork)
	x := &hold{t: t, what: what, gen: gen, was: was, is: shotOf(h), to: map[int]int{}, from: map[int]int{}, roots: roots, news: news}
	if len(news) != len(roots) {
		t.Fatalf("%s: %d roots became %d", what, len(roots), len(news))
	}
	x.closures()
	x.ages()
	checkLists(t, what, x.is)
	now := decode(t, h, news)
	if y := graph.Short(now); !graph.Same(short, y) {
		t.Fatalf("%s: Short was %v; is %v", what, short, y)
	}
	if gen == was.config.Gens-1 {
		x.nothingMore(now)
	}
	if x.is.left+x.is.blocks+1 != was.config.Blocks {
		t.Fatalf("%s: %d blocks are free and %d are taken, of %d", what, x.is.left, x.is.blocks, was.config.Blocks)
	}
	return news, true
}

// must is check where there is room.
func must(t *testing.T, what string, h *heap.Heap, gen int, roots ...int) []int {
	t.Helper()
	l, ok := check(t, what, h, gen, roots...)
	if !ok {
		t.Fatalf("%s: there is no room", what)
	}
	return l
}
