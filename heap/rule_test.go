package heap_test

import (
	"maps"
	"math"
	"slices"
	"testing"

	"midden/api"
	"midden/arena"
	"midden/bump"
	"midden/heap"
	"midden/pool"
	"midden/shape"
)

// Numbers from all over the range of int that are no address, no generation, no step and no number of a pointer of any heap, among them such as would be one if they were cut to 32 bits or fewer.
var (
	farBelow = []int{math.MinInt, math.MinInt + 1, math.MinInt + 64, -1 << 62, -1<<62 + 64, -1 << 32, -1<<32 + 1, -1<<32 + 64, -1 << 31, -1 << 19, -1<<18 - 1, -4096, -128, -65, -64, -63, -5, -4, -3, -2, -1}
	farAbove = []int{1 << 18, 1<<18 + 1, 1<<18 + 64, 1 << 19, 1<<19 + 64, 1 << 20, 1<<31 - 1, 1 << 31, 1<<32 - 1, 1 << 32, 1<<32 + 1, 1<<32 + 64, 1<<40 + 64, 1 << 61, 1 << 62, 1<<62 + 64, math.MaxInt - 63, math.MaxInt - 1, math.MaxInt}
	allKinds = []int{1, 2, 3, 4, 5, 6, 7, 8, 9, 10, 11, 12}
	thunks   = []int{5, 6, 7}
)

// farNumbers tells all of these.
func farNumbers() []int { return slices.Concat(farBelow, farAbove) }

// closure is one by the chapter's words alone: no words in a row, but its parts.
type closure struct {
	head      api.Head
	ptrs      []int
	nons      []uint64
	gen, step int
}

// spot is a space's generation and step.
type spot struct{ gen, step int }

// rule is a heap by the chapter's words alone. It has spaces of its own, but asks them for places only.
type rule struct {
	c          api.Config
	p          *pool.Pool
	a          *arena.Arena
	spaces     map[spot]*bump.Space
	order      map[spot][]int
	there      map[int]*closure
	old        map[spot]struct{} // a list's generation, and an address in it (as the step)
	busy, dead bool
	aside      map[int]*closure
	went       map[int]int
	given      []*bump.Space
	fresh      []int
	told       int
}

func ruleOf(t *testing.T, c api.Config) *rule {
	t.Helper()
	r := &rule{c: c, spaces: map[spot]*bump.Space{}, order: map[spot][]int{}, there: map[int]*closure{}, old: map[spot]struct{}{}}
	var e, f api.Errno
	r.p, e = pool.New(c.Blocks)
	r.a, f = arena.New(64 * c.Blocks)
	if e != api.OK || f != api.OK {
		t.Fatalf("a pool and an arena of %d blocks: errors %d, %d", c.Blocks, int(e), int(f))
	}
	r.p.Alloc(1)
	for gen := range c.Gens {
		r.renew(gen)
	}
	return r
}

// steps tells how many steps a generation has.
func (r *rule) steps(gen int) int {
	switch {
	case gen < 0 || gen >= r.c.Gens:
		return 0
	case gen == r.c.Gens-1:
		return 1
	}
	return r.c.Steps
}

func (r *rule) isGen(gen int) bool { return r.steps(gen) > 0 }

// renew lets a generation have new spaces.
func (r *rule) renew(gen int) {
	for step := range r.steps(gen) {
		s := spot{gen, step}
		r.spaces[s], _ = bump.New(r.p, r.a)
		r.order[s] = nil
	}
}

// fault tells the first errors of all calls that tell one.
func (r *rule) fault(collecting bool) api.Errno {
	switch {
	case r.dead:
		return api.ErrDead
	case r.busy != collecting:
		return api.ErrWork
	}
	return api.OK
}

func (r *rule) has(at int) bool { return r.there[at] != nil }

func (r *rule) mayPoint(p int) bool { return p == 0 || r.has(p) }

func (r *rule) lay(x api.Head, ptrs []int, nons []uint64) (int, api.Errno) {
	if e := r.fault(false); e != api.OK {
		return 0, e
	}
	if e := shape.Right(x); e != api.OK {
		return 0, e
	}
	if len(ptrs) != x.Ptrs || len(nons) != x.Nons {
		return 0, api.ErrSize
	}
	if slices.ContainsFunc(ptrs, func(p int) bool { return !r.mayPoint(p) }) {
		return 0, api.ErrRange
	}
	return r.lodge(&closure{head: x, ptrs: slices.Clone(ptrs), nons: slices.Clone(nons)})
}

// lodge lays a closure in the space of its generation and step.
func (r *rule) lodge(c *closure) (int, api.Errno) {
	s := spot{c.gen, c.step}
	at, e := r.spaces[s].Lay(1 + len(c.ptrs) + len(c.nons))
	if e != api.OK {
		return 0, e
	}
	r.there[at] = c
	r.order[s] = append(r.order[s], at)
	return at, api.OK
}

// look tells the closure that may be looked at there.
func (r *rule) look(at int) (*closure, api.Errno) {
	if r.dead {
		return nil, api.ErrDead
	}
	if c := r.there[at]; c != nil {
		return c, api.OK
	}
	if c := r.aside[at]; c != nil && r.went[at] == 0 {
		return c, api.OK
	}
	return nil, api.ErrRange
}

func (r *rule) isYounger(p, at int) bool {
	return p != 0 && r.there[p].gen < r.there[at].gen
}

// put puts a pointer, with the barrier or without.
func (r *rule) put(at, i, p int, barrier bool) api.Errno {
	if e := r.fault(!barrier); e != api.OK {
		return e
	}
	c := r.there[at]
	if c == nil {
		return api.ErrRange
	}
	if i < 0 || i >= len(c.ptrs) {
		return api.ErrIndex
	}
	if !r.mayPoint(p) {
		return api.ErrRange
	}
	c.ptrs[i] = p
	if barrier {
		r.remember(at, p)
	}
	return api.OK
}

func (r *rule) remember(at, p int) {
	if r.isYounger(p, at) {
		r.old[spot{r.there[at].gen, at}] = struct{}{}
	}
}

// isPassed tells whether a closure may be passed.
func (c *closure) isPassed() bool {
	return slices.Contains(thunks, c.head.Kind) || c.head.Kind == 9
}

// become lets a closure be of another kind with so many pointers, and the same size.
func (c *closure) become(kind, ptrs int) {
	words := len(c.ptrs) + len(c.nons)
	c.head = api.Head{Kind: kind, Ptrs: ptrs, Nons: words - ptrs}
	c.ptrs, c.nons = make([]int, ptrs), make([]uint64, words-ptrs)
}

// comesTo tells whether at is p, or is met from it.
func (r *rule) comesTo(p, at int) bool {
	var met []int
	for p != 0 && !slices.Contains(met, p) {
		if p == at {
			return true
		}
		met = append(met, p)
		if r.there[p].head.Kind != 8 {
			return false
		}
		p = r.there[p].ptrs[0]
	}
	return false
}

func (r *rule) pass(at, p int) api.Errno {
	if e := r.fault(false); e != api.OK {
		return e
	}
	if !r.has(at) || !r.has(p) {
		return api.ErrRange
	}
	if !r.there[at].isPassed() {
		return api.ErrKind
	}
	if r.comesTo(p, at) {
		return api.ErrLoop
	}
	r.there[at].become(8, 1)
	r.there[at].ptrs[0] = p
	r.remember(at, p)
	return api.OK
}

// turnTo is Hole and Fail: what becomes of a closure, and its first other word.
func (r *rule) turnTo(at, kind int, right bool, first uint64) api.Errno {
	if e := r.fault(false); e != api.OK {
		return e
	}
	if !r.has(at) {
		return api.ErrRange
	}
	if !r.there[at].isPassed() {
		return api.ErrKind
	}
	if !right {
		return api.ErrArg
	}
	r.there[at].become(kind, 0)
	r.there[at].nons[0] = first
	return api.OK
}

func (r *rule) hole(at int) api.Errno { return r.turnTo(at, 9, true, 0) }

func (r *rule) fail(at int, n api.Errno) api.Errno {
	return r.turnTo(at, 12, 1 <= n && n <= 9999, uint64(n))
}

func (r *rule) begin(gen int) api.Errno {
	if e := r.fault(false); e != api.OK {
		return e
	}
	if !r.isGen(gen) {
		return api.ErrArg
	}
	r.busy, r.aside, r.went, r.fresh, r.told, r.given = true, map[int]*closure{}, map[int]int{}, nil, 0, nil
	for at, c := range r.there {
		if c.gen <= gen {
			r.aside[at] = c
			delete(r.there, at)
		}
	}
	maps.DeleteFunc(r.old, func(s spot, _ struct{}) bool { return s.gen <= gen })
	for young := 0; young <= gen; young++ {
		for step := range r.steps(young) {
			r.given = append(r.given, r.spaces[spot{young, step}])
		}
		r.renew(young)
	}
	return api.OK
}

// goesTo tells where what is of a generation and a step goes.
func (r *rule) goesTo(s spot, least int) spot {
	to := spot{s.gen, 0}
	if r.isGen(s.gen + 1) {
		to = spot{s.gen + 1, 0}
	}
	if s.step+1 < r.steps(s.gen) {
		to = spot{s.gen, s.step + 1}
	}
	if least > to.gen {
		return spot{least, 0}
	}
	return to
}

func (r *rule) evacuate(at, least int) (int, api.Errno) {
	if e := r.fault(true); e != api.OK {
		return 0, e
	}
	switch {
	case at == 0:
		return 0, api.OK
	case !r.isGen(least):
		return 0, api.ErrArg
	case r.has(at):
		return at, api.OK
	case r.aside[at] == nil:
		return 0, api.ErrRange
	case r.went[at] != 0:
		return r.went[at], api.OK
	}
	c := *r.aside[at]
	s := r.goesTo(spot{c.gen, c.step}, least)
	c.gen, c.step = s.gen, s.step
	c.ptrs, c.nons = slices.Clone(c.ptrs), slices.Clone(c.nons)
	to, e := r.lodge(&c)
	if e != api.OK {
		r.dead = true
		return 0, e
	}
	r.went[at] = to
	r.fresh = append(r.fresh, to)
	return to, api.OK
}

func (r *rule) moved(at int) (int, bool) {
	if r.dead || r.went[at] == 0 {
		return 0, false
	}
	return r.went[at], true
}

func (r *rule) next() (int, bool) {
	if r.dead || r.told == len(r.fresh) {
		return 0, false
	}
	r.told++
	return r.fresh[r.told-1], true
}

// isLeft tells whether a closure that Finish looks at points to what was set aside.
func (r *rule) isLeft(at int, c *closure) bool {
	_, listed := r.old[spot{c.gen, at}]
	if !listed && !slices.Contains(r.fresh, at) {
		return false
	}
	return slices.ContainsFunc(c.ptrs, func(p int) bool { return r.aside[p] != nil })
}

// finish ends a collection. Behind it the lists are made anew from all that there is: as P18.6 has it, just what must stand in them.
func (r *rule) finish() api.Errno {
	if e := r.fault(true); e != api.OK {
		return e
	}
	for at, c := range r.there {
		if r.isLeft(at, c) {
			r.dead = true
			return api.ErrRange
		}
	}
	for _, s := range r.given {
		s.Free()
	}
	r.busy, r.aside, r.went, r.fresh, r.told, r.given = false, nil, nil, nil, 0, nil
	clear(r.old)
	for at, c := range r.there {
		for _, p := range c.ptrs {
			r.remember(at, p)
		}
	}
	return api.OK
}

// list tells a generation's list.
func (r *rule) list(gen int) []int {
	var l []int
	for s := range r.old {
		if s.gen == gen && !r.dead {
			l = append(l, s.step)
		}
	}
	slices.Sort(l)
	return l
}

// closures tells what is in a space.
func (r *rule) closures(gen, step int) []int {
	if r.dead {
		return nil
	}
	return r.order[spot{gen, step}]
}

func (r *rule) used(gen int) int {
	n := 0
	for _, c := range r.there {
		if c.gen == gen && !r.dead {
			n += 1 + len(c.ptrs) + len(c.nons)
		}
	}
	return n
}

func (r *rule) blocks(gen int) int {
	n := 0
	for step := range r.steps(gen) {
		if !r.dead {
			n += r.spaces[spot{gen, step}].Blocks()
		}
	}
	return n
}

func (r *rule) left() int {
	if r.dead {
		return 0
	}
	return r.p.Left()
}

// known tells all addresses of what is there or was set aside, rising.
func (r *rule) known() []int {
	l := slices.AppendSeq(slices.Collect(maps.Keys(r.there)), maps.Keys(r.aside))
	slices.Sort(l)
	return l
}

// pair is a heap and what it should be.
type pair struct {
	h *heap.Heap
	r *rule
}

func made(t *testing.T, c api.Config) *pair {
	t.Helper()
	h, e := heap.New(c)
	if e != api.OK || h == nil {
		t.Fatalf("New(%+v): a heap %t, error %d", c, h != nil, int(e))
	}
	return &pair{h, ruleOf(t, c)}
}

// plain makes a heap of so many generations, steps and blocks.
func plain(t *testing.T, gens, steps, blocks int) *pair {
	t.Helper()
	return made(t, api.Config{Gens: gens, Steps: steps, Blocks: blocks, Nursery: 1})
}
