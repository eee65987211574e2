package graph_test

import (
	"fmt"
	"math"
	"slices"
	"testing"

	"midden/api"
	"midden/graph"
	"midden/heap"
)

// P19.1

// made makes a heap.
func made(t *testing.T, gens, steps, blocks int) *heap.Heap {
	t.Helper()
	h, e := heap.New(api.Config{Gens: gens, Steps: steps, Blocks: blocks, Nursery: 1})
	expect(t, "New", e, api.OK)
	return h
}

func lay(t *testing.T, h *heap.Heap, x api.Head, ptrs []int, nons []uint64) int {
	t.Helper()
	at, e := h.Lay(x, ptrs, nons)
	expect(t, "Lay", e, api.OK)
	return at
}

func layNum(t *testing.T, h *heap.Heap, n uint64) int {
	t.Helper()
	return lay(t, h, api.Head{Kind: api.KInt, Nons: 1}, nil, []uint64{n})
}

func layCon(t *testing.T, h *heap.Heap, info int, ptrs ...int) int {
	t.Helper()
	return lay(t, h, api.Head{Kind: api.KCon, Info: info, Ptrs: len(ptrs)}, ptrs, nil)
}

// sight is all that a heap tells of itself.
func sight(h *heap.Heap) string {
	s := fmt.Sprint(h.Config(), h.Left())
	for gen := range 4 {
		s += fmt.Sprint(gen, h.Old(gen), h.Used(gen), h.Blocks(gen))
		for step := range 3 {
			s += fmt.Sprint(step, h.Closures(gen, step))
		}
	}
	for at := range h.Config().Blocks * 64 {
		x, e := h.Head(at)
		to, ok := h.Moved(at)
		if s += fmt.Sprint(x, int(e), to, ok); e != api.OK {
			continue
		}
		for i := range x.Ptrs {
			p, _ := h.Ptr(at, i)
			s += fmt.Sprint(" ", p)
		}
		for i := range x.Nons {
			w, _ := h.Non(at, i)
			s += fmt.Sprint(" ", w)
		}
	}
	return s
}

// checkDecode holds Decode to the chapter, and looks whether what it is handed stays.
func checkDecode(t *testing.T, what string, h *heap.Heap, roots ...int) (api.Graph, api.Errno) {
	t.Helper()
	l := roomy(roots)
	x, e := graph.Decode(h, l)
	y, f := ruleDecode(h, roots)
	if e != f {
		t.Fatalf("%s: Decode of %v: error %d; want %d", what, roots, int(e), int(f))
	}
	want(t, what+": Decode", x, y)
	if e != api.OK && (x.Roots != nil || x.Nodes != nil) {
		t.Errorf("%s: Decode tells an error and %s", what, told(x))
	}
	if again, e := graph.Decode(h, l); e != f || !equal(again, y) {
		t.Errorf("%s: Decode once more: %s, error %d", what, told(again), int(e))
	}
	was := cloned(x)
	ownLists(t, what, x)
	if !slices.Equal(l[:cap(l)], roomy(roots)[:cap(l)]) {
		t.Errorf("%s: Decode of %v: the roots are changed", what, roots)
	}
	return was, e
}

// checkGraph does so too, for a heap that is small enough to be looked at all over, and wants a graph.
func checkGraph(t *testing.T, what string, h *heap.Heap, g api.Graph, roots ...int) {
	t.Helper()
	was := sight(h)
	x, e := checkDecode(t, what, h, roots...)
	expect(t, what, e, api.OK)
	want(t, what, x, g)
	if sight(h) != was {
		t.Errorf("%s: Decode changes the heap", what)
	}
	if graph.Words(x) != ruleWords(x) {
		t.Errorf("%s: Words %d; want %d", what, graph.Words(x), ruleWords(x))
	}
	checkNorm(t, what, x)
	want(t, what+": Norm of Decode", graph.Norm(x), x)
	checkShort(t, what, x)
}

func checkError(t *testing.T, what string, h *heap.Heap, f api.Errno, roots ...int) {
	t.Helper()
	was := sight(h)
	_, e := checkDecode(t, what, h, roots...)
	expect(t, fmt.Sprintf("%s: Decode of %v", what, roots), e, f)
	if sight(h) != was {
		t.Errorf("%s: Decode changes the heap", what)
	}
}

// farNumbers tells numbers that are no closure's address of any heap.
func farNumbers() []int {
	return []int{math.MinInt, math.MinInt + 64, -1 << 62, -1<<32 + 64, -1 << 32, -1 << 31, -1 << 18, -65, -64, -63, -2, -1, 1 << 18, 1<<18 + 64, 1 << 19, 1<<31 - 1, 1 << 31, 1<<32 + 64, 1<<40 + 64, 1 << 62, 1<<62 + 64, math.MaxInt - 63, math.MaxInt}
}

func TestDecodeOfANilHeap(t *testing.T) {
	for _, l := range [][]int{nil, {}, {0}, {64}, {0, 64, 64}, farNumbers()} {
		x, e := graph.Decode(nil, l)
		expect(t, "a nil heap", e, api.ErrNil)
		want(t, "a nil heap", x, api.Graph{})
	}
}

// checkDead looks at a dead heap: an address that is met is told of with the heap's error, but of none at all there is nothing to be told.
func checkDead(t *testing.T, what string, h *heap.Heap, was ...int) {
	t.Helper()
	for _, at := range slices.Concat(was, farNumbers(), []int{64, 65, 1}) {
		checkError(t, what, h, api.ErrDead, at)
		checkError(t, what, h, api.ErrDead, 0, at)
		checkError(t, what, h, api.ErrDead, at, 0, at)
	}
	checkGraph(t, what, h, api.Graph{})
	checkGraph(t, what, h, of(roots(-1)), 0)
	checkGraph(t, what, h, of(roots(-1, -1, -1)), 0, 0, 0)
}

func TestDecodeOfADeadHeap(t *testing.T) {
	// No room for what is moved.
	h := made(t, 2, 1, 2)
	n := layNum(t, h, 5)
	c := layCon(t, h, 3, n)
	expect(t, "Begin", h.Begin(0), api.OK)
	_, e := h.Evacuate(c, 0)
	expect(t, "Evacuate", e, api.ErrFull)
	checkDead(t, "no room", h, n, c)
	// A pointer to what was set aside.
	h = made(t, 2, 1, 4)
	n = layNum(t, h, 5)
	c = layCon(t, h, 3, n)
	expect(t, "Begin", h.Begin(0), api.OK)
	to, e := h.Evacuate(c, 0)
	expect(t, "Evacuate", e, api.OK)
	expect(t, "Finish", h.Finish(), api.ErrRange)
	checkDead(t, "a pointer that was left", h, n, c, to)
}

func TestDecodeOfRootsThatAreNone(t *testing.T) {
	h := made(t, 1, 1, 3)
	checkGraph(t, "no roots, an empty heap", h, api.Graph{})
	checkGraph(t, "0, an empty heap", h, of(roots(-1)), 0)
	n := layNum(t, h, 5)
	checkGraph(t, "no roots", h, api.Graph{})
	checkGraph(t, "0", h, of(roots(-1)), 0)
	checkGraph(t, "0 among others", h, of(roots(-1, 0, -1, 0, -1), num(5)), 0, n, 0, n, 0)
	if x, e := graph.Decode(h, nil); e != api.OK || len(x.Roots) != 0 || len(x.Nodes) != 0 {
		t.Errorf("Decode of nil: %v, error %d", x, int(e))
	}
}

// Each number there is: just the closures' addresses are none that is refused.
func TestDecodeOfEachRoot(t *testing.T) {
	h := made(t, 2, 2, 4)
	n := layNum(t, h, 5)
	ind := lay(t, h, api.Head{Kind: api.KInd, Ptrs: 1, Nons: 3}, []int{n}, []uint64{64, 66, 68})
	c := layCon(t, h, 3, n, ind)
	arr := lay(t, h, api.Head{Kind: api.KArr, Ptrs: 70}, slices.Repeat([]int{c}, 70), nil)
	all := h.Closures(0, 0)
	for at := 1; at < 300; at++ {
		if slices.Contains(all, at) {
			_, e := checkDecode(t, "an address", h, at, at)
			expect(t, "an address", e, api.OK)
			continue
		}
		checkError(t, "no address", h, api.ErrRange, at)
	}
	for _, at := range append(farNumbers(), 256, 257, 192+71, 1, 63, n+1, c+1, arr+70) {
		checkError(t, "no address", h, api.ErrRange, at)
		checkError(t, "no address first", h, api.ErrRange, at, n, arr)
		checkError(t, "no address last", h, api.ErrRange, 0, n, n, arr, at)
		checkError(t, "no address between", h, api.ErrRange, arr, at, n)
		checkError(t, "no address but", h, api.ErrRange, at, at-1, 0)
	}
}

// heads tells headers of each kind, with as few pointers and words as there may be and with as many.
func heads() []api.Head {
	return []api.Head{
		{Kind: api.KCon}, {Kind: api.KCon, Info: 1<<20 - 1, Ptrs: 8},
		{Kind: api.KInt, Nons: 1},
		{Kind: api.KFun, Info: 1<<20 - 1}, {Kind: api.KFun, Info: 3, Ptrs: 255},
		{Kind: api.KPap, Ptrs: 2}, {Kind: api.KPap, Ptrs: 9},
		{Kind: api.KAp, Ptrs: 2}, {Kind: api.KAp, Ptrs: 9},
		{Kind: api.KThunk, Info: 4, Nons: 1}, {Kind: api.KThunk, Info: 1<<20 - 1, Ptrs: 255},
		{Kind: api.KSel, Info: 1<<20 - 1, Ptrs: 1, Nons: 1},
		{Kind: api.KInd, Ptrs: 1}, {Kind: api.KInd, Ptrs: 1, Nons: 4094},
		{Kind: api.KHole, Nons: 1}, {Kind: api.KHole, Nons: 4095},
		{Kind: api.KRef, Ptrs: 1},
		{Kind: api.KArr}, {Kind: api.KArr, Ptrs: 1024},
		{Kind: api.KFail, Nons: 1}, {Kind: api.KFail, Nons: 4095},
	}
}

func TestDecodeOfEachKind(t *testing.T) {
	for _, x := range heads() {
		h := made(t, 1, 1, 200)
		a, b := layNum(t, h, 7), layNum(t, h, 8)
		n := api.Node{Kind: x.Kind, Info: x.Info}
		var ptrs []int
		var nons []uint64
		for i := range x.Ptrs {
			ptrs = append(ptrs, []int{b, 0, a}[i%3])
			n.Kids = append(n.Kids, []int{1, -1, 2}[i%3])
		}
		for i := range x.Nons {
			nons = append(nons, math.MaxUint64/uint64(i+1))
		}
		n.Nons = nons
		at := lay(t, h, x, ptrs, nons)
		g := of(roots(0), append([]api.Node{n}, num(8), num(7))[:1+min(2, (x.Ptrs+1)/2)]...)
		got, e := checkDecode(t, "each kind", h, at)
		expect(t, "each kind", e, api.OK)
		want(t, fmt.Sprintf("a closure of %v", x), got, g)
		if graph.Words(got) != 1+x.Ptrs+x.Nons+2*(len(g.Nodes)-1) {
			t.Errorf("a closure of %v: Words %d", x, graph.Words(got))
		}
	}
}

func TestDecodeOfWhatWasPassed(t *testing.T) {
	h := made(t, 1, 1, 9)
	n := layNum(t, h, 5)
	thunk := func() int { return lay(t, h, api.Head{Kind: api.KThunk, Info: 9, Ptrs: 3}, []int{n, 0, n}, nil) }
	a, b, c := thunk(), thunk(), thunk()
	expect(t, "Pass", h.Pass(a, n), api.OK)
	expect(t, "Hole", h.Hole(b), api.OK)
	expect(t, "Fail", h.Fail(c, 40), api.OK)
	checkGraph(t, "what was passed", h, of(roots(0, 2, 3),
		api.Node{Kind: api.KInd, Nons: []uint64{0, 0}, Kids: []int{1}}, num(5),
		api.Node{Kind: api.KHole, Nons: []uint64{0, 0, 0}},
		api.Node{Kind: api.KFail, Nons: []uint64{40, 0, 0}}), a, b, c)
}

func TestDecodeOfWhatIsShared(t *testing.T) {
	h := made(t, 1, 1, 9)
	a, b := layNum(t, h, 7), layNum(t, h, 8)
	low := layCon(t, h, 1, a, b)
	left, right := layCon(t, h, 2, b, low), layCon(t, h, 3, low, a)
	top := layCon(t, h, 4, left, right)
	checkGraph(t, "met by two ways", h, of(roots(0), con(4, 1, 5), con(2, 2, 3), num(8), con(1, 4, 2), num(7), con(3, 3, 4)), top)
	checkGraph(t, "roots that share", h, of(roots(0, 3, 0, 2), con(3, 1, 2), con(1, 2, 3), num(7), num(8)), right, b, right, a)
	checkGraph(t, "all of them", h, of(roots(0, 1, 2, 3, 4, 5), num(7), num(8), con(1, 0, 1), con(2, 1, 2), con(3, 2, 0), con(4, 3, 4)), a, b, low, left, right, top)
	checkGraph(t, "what is not reached", h, of(roots(0), num(8)), b)
}

func TestDecodeOfRings(t *testing.T) {
	h := made(t, 1, 1, 9)
	set := func(at, i, p int) {
		t.Helper()
		expect(t, "Set", h.Set(at, i, p), api.OK)
	}
	n := layNum(t, h, 7)
	own := lay(t, h, api.Head{Kind: api.KRef, Ptrs: 1}, []int{0}, nil)
	set(own, 0, own)
	checkGraph(t, "to itself", h, of(roots(0, 0), api.Node{Kind: api.KRef, Kids: []int{0}}), own, own)
	loop := lay(t, h, api.Head{Kind: api.KInd, Ptrs: 1, Nons: 1}, []int{n}, []uint64{3})
	set(loop, 0, loop)
	checkGraph(t, "a KInd to itself", h, of(roots(0), api.Node{Kind: api.KInd, Nons: []uint64{3}, Kids: []int{0}}), loop)
	a := layCon(t, h, 1, 0, n)
	b := layCon(t, h, 2, a, 0)
	c := layCon(t, h, 3, b, own)
	set(a, 0, c)
	set(b, 1, a)
	checkGraph(t, "a ring", h, of(roots(0), con(1, 1, 4), con(3, 2, 3), con(2, 0, 0), api.Node{Kind: api.KRef, Kids: []int{3}}, num(7)), a)
	checkGraph(t, "from elsewhere", h, of(roots(0), con(2, 1, 1), con(1, 2, 4), con(3, 0, 3), api.Node{Kind: api.KRef, Kids: []int{3}}, num(7)), b)
}

// In the midst of a collection what was set aside can be looked at till it moves.
func TestDecodeInTheMidstOfACollection(t *testing.T) {
	h := made(t, 2, 1, 9)
	old := lay(t, h, api.Head{Kind: api.KRef, Ptrs: 1}, []int{0}, nil)
	expect(t, "Begin", h.Begin(0), api.OK)
	old, e := h.Evacuate(old, 0)
	expect(t, "Evacuate", e, api.OK)
	expect(t, "Finish", h.Finish(), api.OK)
	n := layNum(t, h, 7)
	c := layCon(t, h, 1, n, 0, n)
	expect(t, "Set", h.Set(old, 0, c), api.OK)

	all := of(roots(0), api.Node{Kind: api.KRef, Kids: []int{1}}, con(1, 2, -1, 2), num(7))
	below := of(roots(0), con(1, 1, -1, 1), num(7))
	one := of(roots(0), num(7))
	checkGraph(t, "ahead of it", h, all, old)
	expect(t, "Begin", h.Begin(0), api.OK)
	checkGraph(t, "set aside, from an old one", h, all, old)
	checkGraph(t, "set aside", h, below, c)
	checkGraph(t, "set aside, below", h, one, n)
	checkError(t, "within what was set aside", h, api.ErrRange, c+1)

	to, e := h.Evacuate(c, 0)
	expect(t, "Evacuate", e, api.OK)
	checkError(t, "moved, from an old one", h, api.ErrRange, old)
	checkError(t, "moved", h, api.ErrRange, c)
	checkError(t, "moved, behind what is right", h, api.ErrRange, to, n, c)
	checkGraph(t, "where it went, to what was set aside", h, below, to)
	checkGraph(t, "set aside, below what moved", h, one, n)

	went, e := h.Evacuate(n, 0)
	expect(t, "Evacuate", e, api.OK)
	checkError(t, "where it went, to what moved", h, api.ErrRange, to)
	checkGraph(t, "where the other one went", h, one, went)
	expect(t, "Store", h.Store(to, 0, went), api.OK)
	checkError(t, "one of two pointers is right", h, api.ErrRange, to)
	expect(t, "Store", h.Store(to, 2, went), api.OK)
	checkGraph(t, "both are right", h, below, to)
	checkError(t, "the old one is not", h, api.ErrRange, old)
	expect(t, "Store", h.Store(old, 0, to), api.OK)
	checkGraph(t, "all is right", h, all, old)

	// Nothing of this was told by Fresh.
	for _, at := range []int{to, went} {
		if f, ok := h.Fresh(); f != at || !ok {
			t.Errorf("Fresh: %d, %t; want %d", f, ok, at)
		}
	}
	expect(t, "Finish", h.Finish(), api.OK)
	checkGraph(t, "behind it", h, all, old)
	checkError(t, "what was set aside", h, api.ErrRange, c)
	checkGraph(t, "what moved", h, of(roots(0, 1), num(7), con(1, 0, -1, 0)), went, to)
}

// Of a heap with several generations the graph is the same, wherever the closures stand.
func TestDecodeOfGenerations(t *testing.T) {
	h := made(t, 3, 2, 30)
	a := layNum(t, h, 7)
	ref := lay(t, h, api.Head{Kind: api.KRef, Ptrs: 1}, []int{a}, nil)
	g := of(roots(0, 1), api.Node{Kind: api.KRef, Kids: []int{1}}, num(7))
	for range 6 {
		checkGraph(t, "generations", h, g, ref, a)
		expect(t, "Begin", h.Begin(2), api.OK)
		ref, _ = h.Evacuate(ref, 0)
		checkGraph(t, "generations, in the midst", h, g, ref, a)
		a, _ = h.Evacuate(a, 0)
		expect(t, "Store", h.Store(ref, 0, a), api.OK)
		expect(t, "Finish", h.Finish(), api.OK)
	}
	b := layCon(t, h, 5, ref, a)
	expect(t, "Set", h.Set(ref, 0, b), api.OK)
	checkGraph(t, "an old one to a younger one", h, of(roots(0, 2), api.Node{Kind: api.KRef, Kids: []int{1}}, con(5, 0, 2), num(7)), ref, a)
}
