package collect_test

import (
	"fmt"
	"math/rand/v2"
	"testing"

	"midden/api"
	"midden/collect"
	"midden/heap"
)

// P20.6

// layHole lays a closure of so many words.
func layHole(h *heap.Heap, words int) (int, api.Errno) {
	return h.Lay(api.Head{Kind: api.KHole, Nons: words - 1}, nil, make([]uint64, words-1))
}

// spare tells how many blocks are free beyond those that P20.6 asks for.
func spare(h *heap.Heap, gen int) int {
	words := 0
	for young := range gen + 1 {
		words += h.Used(young)
	}
	return h.Left() - (2*words+63)/64 - 5*((h.Config().Gens-1)*h.Config().Steps+1)
}

// tight lays closures of at most so many words, some of which have moved on already, till so many blocks are free beyond those that P20.6 asks for, and tells all that are there; no, if it does not come to just as many.
func tight(t *testing.T, h *heap.Heap, gen, beyond int, words func() int, rnd *rand.Rand) ([]int, bool) {
	t.Helper()
	var all []int
	for spare(h, gen) > 9 {
		at, e := layHole(h, words())
		expect(t, "Lay", e, api.OK)
		all = append(all, at)
		if g := rnd.IntN(h.Config().Gens); rnd.IntN(20) == 0 && spare(h, g) >= 0 {
			l, e := collect.Run(h, g, all)
			expect(t, "Run", e, api.OK)
			all = l
		}
	}
	for spare(h, gen) > beyond {
		at, e := layHole(h, 2+rnd.IntN(9))
		expect(t, "Lay", e, api.OK)
		all = append(all, at)
	}
	return all, spare(h, gen) == beyond
}

// sized tells sizes of closures: the same ones, or, of 0, any up to a block.
func sized(words int, rnd *rand.Rand) func() int {
	return func() int {
		if words == 0 {
			return 2 + rnd.IntN(63)
		}
		return words
	}
}

// With just as many blocks as P20.6 asks for there is room; with one fewer there may be, or the heap dies, as check holds it to.
func TestJustEnoughRoom(t *testing.T) {
	rnd := rand.New(rand.NewPCG(1, 20))
	just := map[int]int{}
	for gens := 1; gens <= api.MaxGens; gens++ {
		for steps := 1; steps <= api.MaxSteps; steps++ {
			for _, words := range []int{2, 17, 22, 33, 34, 63, 64, 0} {
				for i := range 2 * gens {
					gen, beyond := i/2, -(i % 2)
					h := made(t, gens, steps, 150+rnd.IntN(60), 0)
					roots, ok := tight(t, h, gen, beyond, sized(words, rnd), rnd)
					if !ok {
						continue
					}
					just[beyond]++
					check(t, fmt.Sprintf("%d generations, %d steps, closures of %d words, generation %d, %d blocks beyond", gens, steps, words, gen, beyond), h, gen, roots...)
				}
			}
		}
	}
	if just[0] < 100 || just[-1] < 100 {
		t.Errorf("so many heaps had just as many blocks as they need, or one fewer: %v", just)
	}
}

// Blocks that nothing is moved to are not needed: what is not reached takes none, however little room there is.
func TestNoRoomForNothing(t *testing.T) {
	h := made(t, 2, 1, 4, 0)
	for {
		if _, e := layHole(h, 64); e != api.OK {
			break
		}
	}
	if h.Left() != 0 {
		t.Fatalf("%d blocks are free", h.Left())
	}
	must(t, "nothing is reached", h, 0)
	if h.Left() != 3 {
		t.Errorf("%d blocks are free behind it", h.Left())
	}
}

// What is passed over takes none either.
func TestNoRoomForTheWay(t *testing.T) {
	h := made(t, 1, 1, 4, 1)
	n := layNum(t, h, 5)
	at := laySel(t, h, 0, layCon(t, h, 0, n, n, n, n, n, n, n, n), 7)
	for h.Used(0) < 128 {
		at = layInd(t, h, at)
	}
	if h.Left() != 1 {
		t.Fatalf("%d blocks are free", h.Left())
	}
	l := must(t, "a long way", h, 0, at, at)
	wantNum(t, "its end", h, l[0], 5)
}

// wantDeath holds a collection to want of room.
func wantDeath(t *testing.T, what string, h *heap.Heap, gen int, roots ...int) {
	t.Helper()
	if l, e := collect.Run(h, gen, roots); e != api.ErrFull || len(l) > 0 {
		t.Fatalf("%s: %v, error %d; want %d", what, l, int(e), int(api.ErrFull))
	}
	if _, e := h.Lay(api.Head{Kind: api.KCon}, nil, nil); e != api.ErrDead {
		t.Errorf("%s: behind it Lay tells %d", what, int(e))
	}
	if _, e := collect.Run(h, gen, nil); e != api.ErrDead {
		t.Errorf("%s: behind it Run tells %d", what, int(e))
	}
	if h.Left() != 0 || len(h.Closures(0, 0)) != 0 {
		t.Errorf("%s: a dead heap has %d blocks, %v", what, h.Left(), h.Closures(0, 0))
	}
}

// full makes a heap with a closure that takes two blocks and points to two that take as much, and so many blocks that are free.
func full(t *testing.T, free int) (*heap.Heap, int) {
	t.Helper()
	h := made(t, 1, 1, 7+free, 0)
	var ptrs []int
	for range 2 {
		ptrs = append(ptrs, lay(t, h, api.Head{Kind: api.KArr, Ptrs: 127}, make([]int, 127), nil))
	}
	at := lay(t, h, api.Head{Kind: api.KFun, Ptrs: 127}, append(ptrs, make([]int, 125)...), nil)
	if h.Left() != free {
		t.Fatalf("%d blocks are free; want %d", h.Left(), free)
	}
	return h, at
}

func TestWantOfRoom(t *testing.T) {
	for free := range 8 {
		h, at := full(t, free)
		what := fmt.Sprintf("%d blocks are free", free)
		switch {
		case free < 6:
			wantDeath(t, what, h, 0, 0, at)
		default:
			must(t, what, h, 0, at)
		}
	}
}

// There may be no room for a root, for what an old one points to, or for what one points to that was moved.
func TestWantOfRoomForEach(t *testing.T) {
	h := made(t, 1, 1, 2, 0)
	wantDeath(t, "a root", h, 0, layNum(t, h, 1))

	for blocks := 3; blocks < 5; blocks++ {
		h = made(t, 2, 1, blocks, 0)
		r := aged(t, h, 1, lay(t, h, api.Head{Kind: api.KThunk, Ptrs: 62}, make([]int, 62), nil))[0]
		set(t, h, r, 3, layNum(t, h, 1))
		if blocks == 3 {
			wantDeath(t, "what an old one points to", h, 0)
		} else {
			must(t, "a block for what an old one points to", h, 0)
		}
	}

	for blocks := 4; blocks < 6; blocks++ {
		h = made(t, 1, 1, blocks, 0)
		c := lay(t, h, api.Head{Kind: api.KThunk, Ptrs: 62}, make([]int, 62), nil)
		set(t, h, c, 61, layCon(t, h, 0))
		set(t, h, c, 60, layNum(t, h, 1))
		if blocks == 4 {
			wantDeath(t, "what a moved one points to", h, 0, c)
		} else {
			must(t, "two blocks for a moved one and what it points to", h, 0, c)
		}
	}
}
