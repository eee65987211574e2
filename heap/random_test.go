package heap_test

import (
	"fmt"
	"math/rand/v2"
	"slices"
	"testing"

	"midden/api"
)

// P18.2 to P18.7: calls in any order, held against the chapter's words.

// Every row of a few calls on small heaps.
func TestEveryFewCalls(t *testing.T) {
	calls := []func(p *pair){
		func(p *pair) { p.lay(t, api.Head{Kind: api.KInt, Nons: 1}, nil, []uint64{9}) },
		func(p *pair) { p.lay(t, api.Head{Kind: api.KThunk, Ptrs: 2}, []int{0, 64}, nil) },
		func(p *pair) { p.set(t, 128, 0, 64) },
		func(p *pair) { p.pass(t, 64, 66) },
		func(p *pair) { p.hole(t, 128) },
		func(p *pair) { p.begin(t, 0) },
		func(p *pair) { p.begin(t, 1) },
		func(p *pair) { p.evacuate(t, 64, 0) },
		func(p *pair) { p.evacuate(t, 67, 1) },
		func(p *pair) { p.store(t, 128, 1, 0) },
		func(p *pair) { p.fresh(t) },
		func(p *pair) { p.finish(t) },
	}
	for _, c := range []struct{ gens, blocks int }{{2, 3}, {2, 4}, {3, 5}, {4, 5}} {
		for row := range 12 * 12 * 12 {
			p := plain(t, c.gens, 1, c.blocks)
			// An old thunk stands at 128, two young ones at 64 and 67.
			p.thunk(t, 0, 0)
			p.raise(t, c.gens-1, 64)
			p.thunk(t, 0, 128)
			p.thunk(t, 64, 0)
			left := row
			for range 3 {
				calls[left%len(calls)](p)
				left /= len(calls)
				p.check(t, "behind a few calls")
			}
			for range 3 {
				p.fresh(t)
			}
			p.finish(t)
			p.check(t, "behind a few calls and Finish")
			if t.Failed() {
				t.Fatalf("%d generations, %d blocks, the row %d of calls", c.gens, c.blocks, row)
			}
		}
	}
}

// player makes calls at random.
type player struct {
	*pair
	g *rand.Rand
}

func (x *player) pick(l ...int) int { return l[x.g.IntN(len(l))] }

// place tells an address of a closure, or of what was set aside; at times one beside it, or any number.
func (x *player) place() int {
	l := x.r.known()
	if len(l) == 0 || x.g.IntN(25) == 0 {
		return x.pick(append(farNumbers(), int(x.g.Uint64()), x.g.IntN(64*x.r.c.Blocks+3), 0)...)
	}
	at := l[x.g.IntN(len(l))]
	if x.g.IntN(25) == 0 {
		return at + x.g.IntN(3) - 1
	}
	return at
}

// pointer tells what may be pointed to, for the most part.
func (x *player) pointer() int {
	if x.g.IntN(4) == 0 {
		return 0
	}
	return x.place()
}

// live tells a pointer that is right.
func (x *player) live() int {
	for range 9 {
		if p := x.pointer(); x.r.mayPoint(p) {
			return p
		}
	}
	return 0
}

// near tells a number from 0 on, at times one that is far.
func (x *player) near(most int) int {
	if x.g.IntN(20) == 0 {
		return x.pick(append(farNumbers(), int(x.g.Uint64()))...)
	}
	return x.g.IntN(most+2) - 1
}

// header tells one of any kind and size, most of them small and right.
func (x *player) header() api.Head {
	switch x.g.IntN(30) {
	case 0:
		return api.Head{Kind: x.near(13), Info: x.near(3), Ptrs: x.near(4), Nons: x.near(4)}
	case 1:
		return api.Head{Kind: api.KArr, Ptrs: x.g.IntN(200)}
	case 2:
		return api.Head{Kind: x.pick(api.KHole, api.KFail), Nons: 1 + x.g.IntN(300)}
	}
	l := heads()
	return l[x.g.IntN(len(l))]
}

// size tells a header's number of parts, or, of one that may not be, few.
func size(n int) int { return max(0, min(n, 400)) }

func (x *player) layAny(t *testing.T) {
	t.Helper()
	h := x.header()
	var ptrs []int
	var nons []uint64
	for range size(h.Ptrs) {
		ptrs = append(ptrs, x.live())
	}
	for range size(h.Nons) {
		nons = append(nons, x.g.Uint64())
	}
	switch x.g.IntN(40) {
	case 0:
		ptrs = append(ptrs, 0)
	case 1:
		nons = append(nons, 0)
	case 2:
		if len(ptrs) > 0 {
			ptrs[x.g.IntN(len(ptrs))] = x.pointer()
		}
	}
	x.lay(t, h, ptrs, nons)
}

// turnAny makes a call that is done between collections.
func (x *player) turnAny(t *testing.T) {
	t.Helper()
	switch x.g.IntN(12) {
	case 0, 1, 2, 3:
		x.set(t, x.place(), x.near(3), x.pointer())
	case 4, 5, 6, 7:
		x.pass(t, x.place(), x.place())
	case 8, 9:
		x.hole(t, x.place())
	default:
		x.fail(t, x.place(), api.Errno(x.pick(0, 1, 47, 9999, 10000, x.near(9999))))
	}
}

// workAny makes a call that is done in a collection.
func (x *player) workAny(t *testing.T) {
	t.Helper()
	switch x.g.IntN(10) {
	case 0, 1, 2, 3:
		x.evacuate(t, x.place(), max(x.near(x.r.c.Gens), x.near(1)))
	case 4, 5:
		x.fresh(t)
	default:
		x.store(t, x.place(), x.near(3), x.live())
	}
}

// tidy moves all that is pointed to from what Finish looks at, so that the heap lives on, for the most part.
func (x *player) tidy(t *testing.T) {
	t.Helper()
	for gen := range x.r.c.Gens {
		for _, at := range x.h.Old(gen) {
			x.tidyAt(t, at)
		}
	}
	for i := 0; i < len(x.r.fresh) && !x.r.dead; i++ {
		x.tidyAt(t, x.r.fresh[i])
	}
}

func (x *player) tidyAt(t *testing.T, at int) {
	t.Helper()
	if x.r.dead {
		return
	}
	for i, p := range slices.Clone(x.r.there[at].ptrs) {
		if x.r.aside[p] == nil {
			continue
		}
		to := 0
		if x.g.IntN(4) > 0 {
			to, _ = x.evacuate(t, p, x.g.IntN(x.r.c.Gens))
		}
		x.store(t, at, i, to)
	}
}

// call makes any call, for the most part one that is in place.
func (x *player) call(t *testing.T) {
	t.Helper()
	switch n := x.g.IntN(60); {
	case n == 0:
		x.begin(t, x.near(x.r.c.Gens))
	case n < 3 && x.r.busy:
		if x.g.IntN(12) > 0 {
			x.tidy(t)
		}
		x.finish(t)
	case n == 3:
		x.turnAny(t)
	case n == 4:
		x.workAny(t)
	case n == 5:
		x.layAny(t)
	case n == 6 && x.g.IntN(30) == 0:
		x.finish(t)
	case x.r.busy:
		x.workAny(t)
	case n < 32:
		x.layAny(t)
	default:
		x.turnAny(t)
	}
}

func anyConfig(g *rand.Rand) api.Config {
	c := api.Config{Gens: 1 + g.IntN(4), Steps: 1 + g.IntN(3), Blocks: 2 + g.IntN(40), Hops: g.IntN(9)}
	c.Nursery = 1 + g.IntN(c.Blocks)
	return c
}

// checkLists says P18.6 of a heap by its looks alone.
func checkLists(t *testing.T, p *pair) {
	t.Helper()
	for gen := range p.r.c.Gens {
		old := p.h.Old(gen)
		for step := range p.r.c.Steps {
			for _, at := range p.h.Closures(gen, step) {
				x, _ := p.h.Head(at)
				for i := range x.Ptrs {
					to, _ := p.h.Ptr(at, i)
					younger, _, e := p.h.Where(to)
					if to == 0 || e == api.OK && (younger >= gen || slices.Contains(old, at)) {
						continue
					}
					t.Errorf("the pointer %d of %d, of generation %d, is to %d, of generation %d, error %d; listed: %v", i, at, gen, to, younger, int(e), old)
				}
			}
		}
	}
}

func TestRandomCalls(t *testing.T) {
	alive := 0
	for seed := range uint64(300) {
		g := rand.New(rand.NewPCG(seed, 18))
		x := &player{made(t, anyConfig(g)), g}
		for range 300 {
			x.call(t)
			x.checkGens(t, "behind a call")
			for range 3 {
				x.checkAt(t, "behind a call", x.place())
			}
			if !x.r.busy {
				checkLists(t, x.pair)
			}
			if x.r.dead {
				break
			}
			alive++
		}
		x.checkAll(t, "at the end")
		if t.Failed() {
			t.Fatalf("the seed %d, a heap of %+v", seed, x.r.c)
		}
	}
	if alive < 40000 {
		t.Errorf("%d calls on heaps that live", alive)
	}
}

// Collections that keep what some roots reach, one behind another, on heaps that have room for it.
func TestRandomCollections(t *testing.T) {
	for seed := range uint64(120) {
		g := rand.New(rand.NewPCG(seed, 81))
		c := anyConfig(g)
		c.Blocks = 300
		x := &player{made(t, c), g}
		for range 12 {
			for range 25 {
				if x.g.IntN(2) == 0 {
					x.layAny(t)
				} else {
					x.turnAny(t)
				}
			}
			var roots []root
			for range x.g.IntN(6) {
				if at := x.live(); at != 0 {
					roots = append(roots, root{at, x.g.IntN(c.Gens)})
				}
			}
			x.collect(t, x.g.IntN(c.Gens), roots...)
			x.check(t, "behind a collection")
			checkLists(t, x.pair)
		}
		if t.Failed() {
			t.Fatalf("the seed %d, a heap of %+v", seed, c)
		}
	}
}

// R4: the same calls tell the same.
func TestSameCallsTellTheSame(t *testing.T) {
	run := func() string {
		g := rand.New(rand.NewPCG(5, 5))
		x := &player{made(t, api.Config{Gens: 3, Steps: 2, Blocks: 300, Nursery: 3}), g}
		told := ""
		for range 25 {
			for range 30 {
				x.layAny(t)
				x.turnAny(t)
			}
			x.collect(t, x.g.IntN(3), root{x.live(), 0}, root{x.live(), 2})
			for gen := range 3 {
				told += fmt.Sprintln(x.h.Old(gen), x.h.Closures(gen, 0), x.h.Closures(gen, 1), x.h.Used(gen), x.h.Blocks(gen), x.h.Left())
			}
		}
		return told
	}
	first := run()
	for range 5 {
		if told := run(); told != first {
			t.Fatalf("the same calls told\n%s\nand\n%s", first, told)
		}
	}
}
