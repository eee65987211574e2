package heap_test

import (
	"fmt"
	"math"
	"slices"
	"testing"

	"midden/api"
	"midden/heap"
)

// heads tells one header of each kind at least, small ones and such as have more words than they need.
func heads() []api.Head {
	return []api.Head{
		{Kind: api.KCon, Info: 3},
		{Kind: api.KCon, Info: 1<<20 - 1, Ptrs: 8},
		{Kind: api.KInt, Nons: 1},
		{Kind: api.KFun, Info: 7, Ptrs: 2},
		{Kind: api.KPap, Ptrs: 3},
		{Kind: api.KAp, Ptrs: 2},
		{Kind: api.KAp, Ptrs: 9},
		{Kind: api.KThunk, Info: 1, Nons: 1},
		{Kind: api.KThunk, Info: 1<<20 - 1, Ptrs: 1},
		{Kind: api.KThunk, Info: 9, Ptrs: 4},
		{Kind: api.KSel, Info: 6, Ptrs: 1, Nons: 1},
		{Kind: api.KInd, Ptrs: 1},
		{Kind: api.KInd, Ptrs: 1, Nons: 3},
		{Kind: api.KHole, Nons: 1},
		{Kind: api.KHole, Nons: 5},
		{Kind: api.KRef, Ptrs: 1},
		{Kind: api.KArr},
		{Kind: api.KArr, Ptrs: 5},
		{Kind: api.KFail, Nons: 1},
		{Kind: api.KFail, Nons: 4},
	}
}

func TestExampleOfTheChapter(t *testing.T) {
	p := plain(t, 2, 1, 9)
	ref := p.ref(t, 0)
	p.num(t, 5)
	expect(t, "Begin", p.begin(t, 0), api.OK)
	ref = p.move(t, ref, 0)
	if gen, _, _ := p.h.Where(ref); gen != 1 {
		t.Errorf("it is in generation %d; want 1", gen)
	}
	expect(t, "Store", p.store(t, ref, 0, 0), api.OK)
	expect(t, "Finish", p.finish(t), api.OK)
	expect(t, "Set", p.set(t, ref, 0, p.num(t, 7)), api.OK)
	if l := p.h.Old(1); !slices.Equal(l, []int{ref}) {
		t.Errorf("Old(1): %v; want %d alone", l, ref)
	}
	p.checkAll(t, "the example")
}

// P18.1

func TestNewOfEachConfig(t *testing.T) {
	for gens := 1; gens <= 4; gens++ {
		for steps := 1; steps <= 3; steps++ {
			for hops := range 9 {
				c := api.Config{Gens: gens, Steps: steps, Blocks: 3, Nursery: 2, Hops: hops}
				p := made(t, c)
				if p.h.Config() != c || p.h.Left() != 2 {
					t.Errorf("New(%+v): Config %+v, Left %d", c, p.h.Config(), p.h.Left())
				}
				p.num(t, 1)
				p.checkAll(t, fmt.Sprintf("a heap of %+v", c))
			}
		}
	}
}

func TestNewAtTheEdges(t *testing.T) {
	for _, c := range []api.Config{
		{Gens: 1, Steps: 1, Blocks: 2, Nursery: 1, Hops: 0},
		{Gens: 1, Steps: 1, Blocks: 2, Nursery: 2, Hops: 0},
		{Gens: 4, Steps: 3, Blocks: 4096, Nursery: 4096, Hops: 8},
		{Gens: 4, Steps: 3, Blocks: 4096, Nursery: 1, Hops: 8},
		{Gens: 4, Steps: 3, Blocks: 4095, Nursery: 4095, Hops: 8},
		{Gens: 2, Steps: 2, Blocks: 3, Nursery: 3, Hops: 1},
	} {
		p := made(t, c)
		if p.h.Config() != c || p.h.Left() != c.Blocks-1 {
			t.Errorf("New(%+v): Config %+v, Left %d", c, p.h.Config(), p.h.Left())
		}
		if at := p.num(t, 1); at != 64 {
			t.Errorf("the first closure is laid at %d; want 64", at)
		}
	}
}

// wrongConfigs tells configurations that have one number that may not be.
func wrongConfigs() []api.Config {
	right := api.Config{Gens: 2, Steps: 2, Blocks: 8, Nursery: 2, Hops: 4}
	var l []api.Config
	add := func(field func(c *api.Config) *int, wrong ...int) {
		for _, n := range slices.Concat(wrong, farNumbers()) {
			c := right
			*field(&c) = n
			l = append(l, c)
		}
	}
	add(func(c *api.Config) *int { return &c.Gens }, 0, 5, 6)
	add(func(c *api.Config) *int { return &c.Steps }, 0, 4, 5)
	add(func(c *api.Config) *int { return &c.Blocks }, 0, 1, 4097, 4098)
	add(func(c *api.Config) *int { return &c.Nursery }, 0, 9, 10, 4096, 4097)
	add(func(c *api.Config) *int { return &c.Hops }, 9, 10)
	return append(l, api.Config{},
		api.Config{Gens: 1, Steps: 1, Blocks: 1, Nursery: 1},
		api.Config{Gens: 1, Steps: 1, Blocks: 2, Nursery: 3},
		api.Config{Gens: 4, Steps: 3, Blocks: 4096, Nursery: 4097, Hops: 8},
		api.Config{Gens: 4, Steps: 3, Blocks: 4097, Nursery: 4097, Hops: 8},
		api.Config{Gens: 1, Steps: 1, Blocks: math.MinInt, Nursery: math.MinInt})
}

func TestNewOfConfigsThatMayNotBe(t *testing.T) {
	for _, c := range wrongConfigs() {
		if h, e := heap.New(c); h != nil || e != api.ErrArg {
			t.Errorf("New(%+v): a heap %t, error %d; want none, error %d", c, h != nil, int(e), int(api.ErrArg))
		}
	}
}

// P18.2

func TestLayOfEachKind(t *testing.T) {
	for _, x := range heads() {
		p := plain(t, 2, 2, 5)
		num := p.num(t, 3)
		for _, ptr := range []int{0, num, p.filled(t, x, num)} {
			p.filled(t, x, ptr)
		}
		p.checkAll(t, fmt.Sprintf("closures of %+v", x))
	}
}

// A closure's pointers and words stand in their order, one behind the other.
func TestLayInOrder(t *testing.T) {
	p := plain(t, 1, 1, 4)
	a, b := p.num(t, math.MaxUint64), p.num(t, 0)
	at := p.must(t, api.Head{Kind: api.KCon, Info: 2, Ptrs: 4}, []int{a, 0, b, a}, nil)
	fail := p.must(t, api.Head{Kind: api.KFail, Nons: 3}, nil, []uint64{47, math.MaxUint64, 1 << 63})
	for i, want := range []int{a, 0, b, a} {
		if got, e := p.h.Ptr(at, i); got != want || e != api.OK {
			t.Errorf("Ptr %d = %d, error %d; want %d", i, got, int(e), want)
		}
	}
	for i, want := range []uint64{47, math.MaxUint64, 1 << 63} {
		if got, e := p.h.Non(fail, i); got != want || e != api.OK {
			t.Errorf("Non %d = %d, error %d; want %d", i, got, int(e), want)
		}
	}
	if l := p.h.Closures(0, 0); !slices.Equal(l, []int{64, 66, 68, 73}) {
		t.Errorf("the closures are at %v", l)
	}
	p.checkAll(t, "a few closures")
}

func TestLayOfHeadersThatAreNotRight(t *testing.T) {
	p := plain(t, 2, 1, 4)
	p.num(t, 3)
	for _, c := range []struct {
		head api.Head
		want api.Errno
	}{
		{api.Head{}, api.ErrKind},
		{api.Head{Kind: 13, Nons: 1}, api.ErrKind},
		{api.Head{Kind: -1}, api.ErrKind},
		{api.Head{Kind: api.KInt}, api.ErrSize},
		{api.Head{Kind: api.KInt, Nons: 2}, api.ErrSize},
		{api.Head{Kind: api.KThunk, Info: 3}, api.ErrSize},
		{api.Head{Kind: api.KCon, Ptrs: 9}, api.ErrSize},
		{api.Head{Kind: api.KArr, Ptrs: 1025}, api.ErrSize},
		{api.Head{Kind: api.KHole, Nons: 4096}, api.ErrSize},
		{api.Head{Kind: api.KInd, Ptrs: 1, Nons: 4095}, api.ErrSize},
		{api.Head{Kind: api.KRef, Ptrs: -1}, api.ErrSize},
		{api.Head{Kind: api.KInt, Info: 1, Nons: 1}, api.ErrArg},
		{api.Head{Kind: api.KCon, Info: -1}, api.ErrArg},
		{api.Head{Kind: api.KCon, Info: 1 << 20}, api.ErrArg},
		{api.Head{Kind: 13, Info: -1, Ptrs: -1}, api.ErrKind},
		{api.Head{Kind: api.KInt, Info: 1}, api.ErrSize},
	} {
		// What else is wrong with the call plays no part.
		for _, ptrs := range [][]int{nil, {0}, {1, 2, 3}} {
			_, e := p.lay(t, c.head, ptrs, nil)
			expect(t, fmt.Sprintf("Lay of %+v", c.head), e, c.want)
			p.lay(t, c.head, ptrs, []uint64{1})
		}
	}
	for _, far := range farNumbers() {
		for _, x := range heads() {
			p.lay(t, api.Head{Kind: far, Info: x.Info, Ptrs: x.Ptrs, Nons: x.Nons}, nil, nil)
			p.lay(t, api.Head{Kind: x.Kind, Info: x.Info, Ptrs: far, Nons: x.Nons}, nil, nil)
			p.lay(t, api.Head{Kind: x.Kind, Info: x.Info, Ptrs: x.Ptrs, Nons: far}, nil, nil)
			p.lay(t, api.Head{Kind: x.Kind, Info: far, Ptrs: x.Ptrs, Nons: x.Nons}, make([]int, x.Ptrs), make([]uint64, x.Nons+1))
		}
	}
	p.checkAll(t, "behind all that was refused")
}

func TestLayOfTooFewAndTooMany(t *testing.T) {
	p := plain(t, 2, 1, 4)
	num := p.num(t, 3)
	for _, x := range heads() {
		ptrs, nons := slices.Repeat([]int{num}, x.Ptrs), make([]uint64, x.Nons)
		_, e := p.lay(t, x, append(ptrs, num), nons)
		expect(t, "a pointer too many", e, api.ErrSize)
		_, e = p.lay(t, x, ptrs, append(nons, 0))
		expect(t, "a word too many", e, api.ErrSize)
		_, e = p.lay(t, x, append(ptrs, -1), nons)
		expect(t, "a pointer too many, which is none", e, api.ErrSize)
		if x.Ptrs > 0 {
			_, e = p.lay(t, x, ptrs[1:], nons)
			expect(t, "a pointer too few", e, api.ErrSize)
			_, e = p.lay(t, x, ptrs[1:], append(nons, 0))
			expect(t, "a word in a pointer's stead", e, api.ErrSize)
			ptrs[0] = 1
			_, e = p.lay(t, x, ptrs, append(nons, 0))
			expect(t, "a word too many, and a pointer that is none", e, api.ErrSize)
		}
		if x.Nons > 0 {
			_, e = p.lay(t, x, ptrs, nons[1:])
			expect(t, "a word too few", e, api.ErrSize)
		}
	}
	p.checkAll(t, "behind all that was refused")
}

// wrongPointers tells numbers that are no closure's address of a heap: places within closures, behind them, and far away.
func wrongPointers(p *pair) []int {
	var l []int
	for at := 1; at < 64*p.r.c.Blocks+3; at++ {
		if !p.r.has(at) {
			l = append(l, at)
		}
	}
	for _, at := range farNumbers() {
		if at < 0 || at > 64*p.r.c.Blocks+2 {
			l = append(l, at)
		}
	}
	return l
}

func TestLayOfPointersThatAreNone(t *testing.T) {
	p := plain(t, 2, 1, 4)
	num := p.num(t, 3)
	arr := p.filled(t, api.Head{Kind: api.KArr, Ptrs: 3}, num)
	con := api.Head{Kind: api.KCon, Info: 1, Ptrs: 3}
	for _, wrong := range wrongPointers(p) {
		for _, ptrs := range [][]int{{wrong, 0, num}, {0, wrong, arr}, {num, arr, wrong}} {
			_, e := p.lay(t, con, ptrs, nil)
			expect(t, fmt.Sprintf("Lay with the pointers %v", ptrs), e, api.ErrRange)
		}
	}
	p.checkAll(t, "behind all that was refused")
	p.must(t, con, []int{num, arr, 0}, nil)
	p.checkAll(t, "behind one that is right")
}

// A space that is just full, and one that is not: what is laid goes behind what was laid in the same block, else into a new one.
func TestLayIntoASpaceThatIsFull(t *testing.T) {
	p := plain(t, 2, 2, 3)
	hole := func(words int) api.Head { return api.Head{Kind: api.KHole, Nons: words - 1} }
	if at := p.filled(t, hole(63), 0); at != 64 {
		t.Errorf("laid at %d; want 64", at)
	}
	// Of one word there is room yet, of two in a new block alone.
	if at := p.filled(t, api.Head{Kind: api.KCon}, 0); at != 127 {
		t.Errorf("laid at %d; want 127", at)
	}
	if at := p.filled(t, hole(60), 0); at != 128 {
		t.Errorf("laid at %d; want 128", at)
	}
	for words := 5; words <= 70; words++ {
		_, e := p.lay(t, hole(words), nil, make([]uint64, words-1))
		expect(t, fmt.Sprintf("Lay of %d words", words), e, api.ErrFull)
	}
	p.checkAll(t, "no room for much")
	if at := p.filled(t, hole(4), 0); at != 188 {
		t.Errorf("laid at %d; want 188", at)
	}
	_, e := p.lay(t, api.Head{Kind: api.KCon}, nil, nil)
	expect(t, "Lay of 1 word", e, api.ErrFull)
	_, e = p.lay(t, api.Head{Kind: api.KRef, Ptrs: 1}, []int{65}, nil)
	expect(t, "Lay of a wrong pointer where there is no room", e, api.ErrRange)
	_, e = p.lay(t, api.Head{Kind: api.KRef, Ptrs: 1}, nil, nil)
	expect(t, "Lay of too few pointers where there is no room", e, api.ErrSize)
	_, e = p.lay(t, api.Head{Kind: api.KRef}, nil, nil)
	expect(t, "Lay of a wrong header where there is no room", e, api.ErrSize)
	p.checkAll(t, "no room at all")
	// Want of room is no death.
	expect(t, "Hole", p.hole(t, 64), api.OK)
	p.checkAll(t, "a full heap")
}

func TestLayOfTheGreatestClosures(t *testing.T) {
	p := plain(t, 2, 1, 1+64*3)
	arr := api.Head{Kind: api.KArr, Ptrs: 1024}
	num := p.num(t, 1)
	p.filled(t, arr, num)
	p.filled(t, api.Head{Kind: api.KHole, Nons: 4095}, 0)
	p.filled(t, api.Head{Kind: api.KInd, Ptrs: 1, Nons: 4094}, num)
	_, e := p.lay(t, api.Head{Kind: api.KFail, Nons: 4095}, nil, make([]uint64, 4095))
	expect(t, "Lay of 64 blocks where 46 are left", e, api.ErrFull)
	p.filled(t, api.Head{Kind: api.KFail, Nons: 46*64 - 1}, 0)
	if p.h.Left() != 0 {
		t.Errorf("%d blocks are left", p.h.Left())
	}
	p.num(t, 2)
	p.check(t, "great closures")
}

// R3: what is handed in is kept as no list, and what is answered is none of the heap's.
func TestLayKeepsNoList(t *testing.T) {
	p := plain(t, 1, 1, 4)
	num := p.num(t, 1)
	ptrs, nons := []int{num, 0, num}, []uint64{7, 8}
	p.must(t, api.Head{Kind: api.KCon, Ptrs: 2}, ptrs[:2:3], nil)
	p.must(t, api.Head{Kind: api.KFail, Nons: 1}, nil, nons[:1])
	if !slices.Equal(ptrs, []int{num, 0, num}) || !slices.Equal(nons, []uint64{7, 8}) {
		t.Errorf("the lists became %v, %v", ptrs, nons)
	}
	clear(ptrs)
	clear(nons)
	p.checkAll(t, "the lists are cleared")
	for at := range p.h.Closures(0, 0) {
		p.h.Closures(0, 0)[at] = 1
	}
	p.checkAll(t, "an answer is written to")
}

// P18.3

func TestLooksAtWhatIsNoClosure(t *testing.T) {
	p := plain(t, 3, 2, 4)
	num := p.num(t, 1)
	p.filled(t, api.Head{Kind: api.KAp, Ptrs: 4}, num)
	p.filled(t, api.Head{Kind: api.KFail, Nons: 70}, 0)
	for _, at := range append(wrongPointers(p), 0) {
		_, e := p.h.Head(at)
		expect(t, fmt.Sprintf("Head(%d)", at), e, api.ErrRange)
		for _, i := range append(farNumbers(), 0, 1) {
			_, e = p.h.Ptr(at, i)
			expect(t, fmt.Sprintf("Ptr(%d, %d)", at, i), e, api.ErrRange)
			_, e = p.h.Non(at, i)
			expect(t, fmt.Sprintf("Non(%d, %d)", at, i), e, api.ErrRange)
		}
		_, _, e = p.h.Where(at)
		expect(t, fmt.Sprintf("Where(%d)", at), e, api.ErrRange)
	}
	p.checkAll(t, "looks at all places")
}

func TestLooksAtEachNumber(t *testing.T) {
	p := plain(t, 1, 1, 9)
	num := p.num(t, 1)
	for _, x := range heads() {
		at := p.filled(t, x, num)
		if x.Ptrs > 0 {
			if ptr, e := p.h.Ptr(at, x.Ptrs-1); ptr != num || e != api.OK {
				t.Errorf("the last pointer of %+v is %d, error %d", x, ptr, int(e))
			}
		}
		for _, i := range append(farNumbers(), x.Ptrs, x.Ptrs+1) {
			_, e := p.h.Ptr(at, i)
			expect(t, fmt.Sprintf("Ptr %d of %+v", i, x), e, api.ErrIndex)
		}
		for _, i := range append(farNumbers(), x.Nons, x.Nons+1) {
			_, e := p.h.Non(at, i)
			expect(t, fmt.Sprintf("Non %d of %+v", i, x), e, api.ErrIndex)
		}
	}
	p.checkAll(t, "all kinds")
}

// checkNoGens asks for generations and steps that are none.
func checkNoGens(t *testing.T, h *heap.Heap, gens, steps int) {
	t.Helper()
	for _, wrong := range append(farNumbers(), gens, gens+1) {
		for step := range 3 {
			if l := h.Closures(wrong, step); len(l) != 0 {
				t.Errorf("Closures(%d, %d): %v", wrong, step, l)
			}
		}
		if l := h.Old(wrong); len(l) != 0 {
			t.Errorf("Old(%d): %v", wrong, l)
		}
		if u, b := h.Used(wrong), h.Blocks(wrong); u != 0 || b != 0 {
			t.Errorf("Used(%d) = %d, Blocks %d", wrong, u, b)
		}
	}
	for _, wrong := range append(farNumbers(), steps, steps+1) {
		for gen := range gens {
			if l := h.Closures(gen, wrong); len(l) != 0 {
				t.Errorf("Closures(%d, %d): %v", gen, wrong, l)
			}
		}
	}
	for step := 1; step < 4; step++ {
		if l := h.Closures(gens-1, step); len(l) != 0 {
			t.Errorf("Closures(%d, %d), of the oldest generation: %v", gens-1, step, l)
		}
	}
}

func TestLooksAtGenerationsAndSteps(t *testing.T) {
	for gens := 1; gens <= 4; gens++ {
		for steps := 1; steps <= 3; steps++ {
			p := plain(t, gens, steps, 150)
			for range 2 * gens * steps {
				var roots []root
				for _, at := range p.r.known() {
					roots = append(roots, root{at, 0})
				}
				p.collect(t, gens-1, roots...)
				p.ref(t, p.num(t, 1))
				p.filled(t, api.Head{Kind: api.KHole, Nons: 69}, 0)
				p.check(t, fmt.Sprintf("%d generations, %d steps", gens, steps))
			}
			checkNoGens(t, p.h, gens, steps)
		}
	}
}

// A block that is laid in counts whole; what is great has blocks of its own.
func TestUsedAndBlocks(t *testing.T) {
	p := plain(t, 2, 2, 9)
	for _, c := range []struct{ words, used, blocks int }{
		{2, 2, 1}, {60, 62, 1}, {3, 65, 2}, {64, 129, 3}, {65, 194, 5}, {2, 196, 6}, {62, 258, 6}, {2, 260, 7}, {64, 324, 8},
	} {
		p.filled(t, api.Head{Kind: api.KHole, Nons: c.words - 1}, 0)
		if u, b, l := p.h.Used(0), p.h.Blocks(0), p.h.Left(); u != c.used || b != c.blocks || l != 8-c.blocks {
			t.Errorf("Used %d, Blocks %d, Left %d; want %d, %d, %d", u, b, l, c.used, c.blocks, 8-c.blocks)
		}
		p.check(t, "words in blocks")
	}
}
