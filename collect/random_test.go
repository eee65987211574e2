package collect_test

import (
	"fmt"
	"math/rand/v2"
	"slices"
	"testing"

	"midden/api"
	"midden/collect"
	"midden/heap"
)

// life is a heap to which things are done by chance, and the addresses that whoever does them keeps.
type life struct {
	*rand.Rand
	t    *testing.T
	h    *heap.Heap
	kept []int
	runs []string
}

// some tells one that is kept, or 0.
func (x *life) some() int {
	if len(x.kept) == 0 || x.IntN(9) == 0 {
		return 0
	}
	return x.kept[x.IntN(len(x.kept))]
}

// header tells one of a closure that is to be laid: most may be on the way.
func (x *life) header() api.Head {
	switch x.IntN(10) {
	case 0, 1:
		return api.Head{Kind: api.KInd, Ptrs: 1, Nons: x.IntN(3)}
	case 2, 3, 4:
		return api.Head{Kind: api.KSel, Info: x.IntN(2), Ptrs: 1, Nons: 1}
	case 5, 6, 7:
		return api.Head{Kind: api.KCon, Info: x.IntN(2), Ptrs: x.IntN(4)}
	}
	h := heads()[x.IntN(len(heads()))]
	if 1+h.Ptrs+h.Nons > 60 && x.IntN(8) > 0 {
		h = api.Head{Kind: api.KInt, Nons: 1}
	}
	return h
}

func (x *life) lay() {
	head := x.header()
	ptrs, nons := make([]int, head.Ptrs), make([]uint64, head.Nons)
	for i := range ptrs {
		ptrs[i] = x.some()
	}
	for i := range nons {
		nons[i] = uint64(x.IntN(4))
	}
	if at, e := x.h.Lay(head, ptrs, nons); e == api.OK {
		x.kept = append(x.kept, at)
	}
}

// turn turns one that is kept.
func (x *life) turn() {
	at := x.some()
	switch x.IntN(9) {
	case 0, 1:
		x.h.Pass(at, x.some())
	case 2:
		if x.IntN(3) == 0 {
			x.h.Hole(at)
		}
	case 3:
		if x.IntN(3) == 0 {
			x.h.Fail(at, api.ErrDiv)
		}
	default:
		x.h.Set(at, x.IntN(4), x.some())
	}
}

// collect does a collection whose roots are some of what is kept, and tells whether there was room.
func (x *life) collect() bool {
	gen := x.IntN(x.h.Config().Gens)
	var roots []int
	for _, at := range x.kept {
		if x.IntN(3) > 0 {
			roots = append(roots, at)
		}
	}
	x.Shuffle(len(roots), func(i, j int) { roots[i], roots[j] = roots[j], roots[i] })
	if x.IntN(4) == 0 {
		roots = append(roots, 0, x.some())
	}
	l, ok := check(x.t, fmt.Sprintf("%+v, collection %d", x.h.Config(), len(x.runs)), x.h, gen, roots...)
	x.kept = slices.Compact(slices.DeleteFunc(l, func(at int) bool { return at == 0 }))
	x.runs = append(x.runs, fmt.Sprint(gen, roots, l))
	return ok
}

func lived(t *testing.T, seed uint64, most int) *life {
	rnd := rand.New(rand.NewPCG(seed, 20))
	c := api.Config{Gens: 1 + rnd.IntN(4), Steps: 1 + rnd.IntN(3), Nursery: 1, Hops: rnd.IntN(api.MaxHops + 1), Blocks: 2 + rnd.IntN(most)}
	if rnd.IntN(2) == 0 {
		c.Hops = rnd.IntN(3)
	}
	h, e := heap.New(c)
	expect(t, "New", e, api.OK)
	x := &life{Rand: rnd, t: t, h: h}
	for range 1 + rnd.IntN(6) {
		for range rnd.IntN(30) {
			x.lay()
		}
		for range rnd.IntN(40) {
			x.turn()
		}
		if !x.collect() {
			break
		}
	}
	return x
}

func TestRandomLives(t *testing.T) {
	deaths, runs := 0, 0
	for seed := range uint64(4000) {
		most := 400
		if seed%4 == 0 {
			most = 12
		}
		x := lived(t, seed, most)
		runs += len(x.runs)
		if x.h.Left() == 0 {
			deaths++
		}
	}
	if deaths < 100 || deaths > 2000 || runs < 8000 {
		t.Errorf("%d heaps died, behind %d collections in all", deaths, runs)
	}
}

// R4: the same calls have the same answers, whatever the order of maps.
func TestSameAgain(t *testing.T) {
	for seed := range uint64(150) {
		x := lived(t, seed, 400)
		for range 3 {
			if y := lived(t, seed, 400); !slices.Equal(x.runs, y.runs) || fmt.Sprint(shotOf(x.h)) != fmt.Sprint(shotOf(y.h)) {
				t.Fatalf("the heap of seed %d is another one when it is made again", seed)
			}
		}
	}
}

// choice is a closure of a small heap: its kind, a KSel's field, and which ones its pointers are to (0: none).
type choice struct {
	kind  int
	field uint64
	ptrs  []int
}

// choices tells all of a heap of so many.
func choices(many int) []choice {
	var l []choice
	for p := range many + 1 {
		l = append(l, choice{api.KInd, 0, []int{p}}, choice{api.KSel, 0, []int{p}}, choice{api.KSel, 1, []int{p}})
		for q := range many + 1 {
			l = append(l, choice{api.KCon, 0, []int{p, q}})
		}
	}
	return l
}

// build lays a small heap; the first so many of its closures are old.
func build(t *testing.T, hops, olds int, l []choice) (*heap.Heap, []int) {
	t.Helper()
	h := made(t, 2, 1, 8, hops)
	var all []int
	for i, c := range l {
		x := api.Head{Kind: c.kind, Ptrs: len(c.ptrs)}
		var nons []uint64
		if c.kind == api.KSel {
			x.Nons, nons = 1, []uint64{c.field}
		}
		all = append(all, lay(t, h, x, make([]int, len(c.ptrs)), nons))
		if i+1 == olds {
			moved, e := collect.Run(h, 0, all)
			expect(t, "Run", e, api.OK)
			all = moved
		}
	}
	for i, c := range l {
		for j, p := range c.ptrs {
			if p > 0 {
				set(t, h, all[i], j, all[p-1])
			}
		}
	}
	return h, all
}

// each heap of two closures, of which none, one or both are old.
func TestSmallHeaps(t *testing.T) {
	l := choices(2)
	for _, a := range l {
		for _, b := range l {
			for hops := range 4 {
				for olds := range 3 {
					for gen := range 2 {
						for _, first := range []int{0, 1} {
							h, all := build(t, hops, olds, []choice{a, b})
							what := fmt.Sprintf("%v %v, %d hops, %d old, generation %d", a, b, hops, olds, gen)
							roots := must(t, what, h, gen, all[first])
							must(t, what+", again", h, gen, roots...)
						}
						h, all := build(t, hops, olds, []choice{a, b})
						must(t, "both, "+fmt.Sprint(a, b, hops, olds, gen), h, gen, all...)
					}
				}
			}
		}
	}
}

// some heaps of three or four closures.
func TestSmallHeapsOfMore(t *testing.T) {
	rnd := rand.New(rand.NewPCG(2, 20))
	for range 30000 {
		many := 3 + rnd.IntN(3)
		of := choices(many)
		var l []choice
		for range many {
			l = append(l, of[rnd.IntN(len(of))])
		}
		hops, olds, gen := rnd.IntN(5), rnd.IntN(many+1), rnd.IntN(2)
		h, all := build(t, hops, olds, l)
		what := fmt.Sprintf("%v, %d hops, %d old, generation %d", l, hops, olds, gen)
		var roots []int
		for range 1 + rnd.IntN(3) {
			roots = append(roots, all[rnd.IntN(many)])
		}
		roots = must(t, what, h, gen, roots...)
		must(t, what+", again", h, gen, roots...)
	}
}
