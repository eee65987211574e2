package heap_test

import (
	"slices"
	"testing"

	"midden/api"
	"midden/heap"
)

// Heaps as great as the document allows (R1 to R6).

// great makes the greatest heap.
func great(t *testing.T) *heap.Heap {
	t.Helper()
	h, e := heap.New(api.Config{Gens: 4, Steps: 3, Blocks: 4096, Nursery: 4096, Hops: 8})
	expect(t, "New", e, api.OK)
	return h
}

func layOn(t *testing.T, h *heap.Heap, x api.Head, ptrs []int, nons []uint64) int {
	t.Helper()
	at, e := h.Lay(x, ptrs, nons)
	expect(t, "Lay", e, api.OK)
	return at
}

// fill lays variables, each of which points to the one ahead of it, till there is no room.
func fill(t *testing.T, h *heap.Heap) []int {
	t.Helper()
	var l []int
	last := 0
	for {
		at, e := h.Lay(api.Head{Kind: api.KRef, Ptrs: 1}, []int{last}, nil)
		if e == api.ErrFull && at == 0 {
			return l
		}
		expect(t, "Lay", e, api.OK)
		l = append(l, at)
		last = at
	}
}

func TestGreatestHeapThatIsFull(t *testing.T) {
	h := great(t)
	l := fill(t, h)
	if len(l) != 4095*32 || h.Left() != 0 || h.Used(0) != 4095*64 || h.Blocks(0) != 4095 {
		t.Errorf("%d closures, %d blocks left, %d words, %d blocks", len(l), h.Left(), h.Used(0), h.Blocks(0))
	}
	if !slices.Equal(h.Closures(0, 0), l) {
		t.Error("the closures are not those that were laid, in order")
	}
	for i, at := range l {
		if at != 64+2*i {
			t.Fatalf("the closure %d is at %d; want %d", i, at, 64+2*i)
		}
		if ptr, e := h.Ptr(at, 0); e != api.OK || i > 0 && ptr != l[i-1] {
			t.Fatalf("the closure %d points to %d, error %d", i, ptr, int(e))
		}
		_, e := h.Head(at + 1)
		expect(t, "Head of a pointer's word", e, api.ErrRange)
	}
	// There is no room to move anything; but all can be let go.
	expect(t, "Begin", h.Begin(3), api.OK)
	expect(t, "Finish", h.Finish(), api.OK)
	if h.Left() != 4095 || h.Used(0) != 0 {
		t.Errorf("%d blocks left, %d words", h.Left(), h.Used(0))
	}
	if again := fill(t, h); !slices.Equal(again, l) {
		t.Error("what is laid again is laid elsewhere")
	}
	expect(t, "Begin", h.Begin(0), api.OK)
	_, e := h.Evacuate(l[0], 0)
	expect(t, "Evacuate", e, api.ErrFull)
	checkGone(t, h, api.ErrDead)
}

// moveAll does a collection of a generation that keeps all of some variables that point to one another.
func moveAll(t *testing.T, h *heap.Heap, gen int, l []int) []int {
	t.Helper()
	expect(t, "Begin", h.Begin(gen), api.OK)
	var went []int
	for _, at := range l {
		to, e := h.Evacuate(at, 0)
		expect(t, "Evacuate", e, api.OK)
		went = append(went, to)
	}
	i := 0
	for at, ok := h.Fresh(); ok; at, ok = h.Fresh() {
		if at != went[i] {
			t.Fatalf("Fresh tells %d; want %d", at, went[i])
		}
		ptr, _ := h.Ptr(at, 0)
		to, e := h.Evacuate(ptr, 0)
		expect(t, "Evacuate", e, api.OK)
		expect(t, "Store", h.Store(at, 0, to), api.OK)
		i++
	}
	expect(t, "Finish", h.Finish(), api.OK)
	return went
}

// As many closures as a heap can move, moved till they are in the oldest generation, and once more.
func TestManyClosuresThatMove(t *testing.T) {
	h := great(t)
	l := fill(t, h)
	expect(t, "Begin", h.Begin(0), api.OK)
	expect(t, "Finish", h.Finish(), api.OK)
	l = l[:2047*32]
	for i := range l {
		l[i] = layOn(t, h, api.Head{Kind: api.KRef, Ptrs: 1}, []int{l[max(0, i-1)] * min(i, 1)}, nil)
	}
	for gen := range 4 {
		for step := range 3 {
			if gen == 3 && step > 0 {
				continue
			}
			if g, s, e := h.Where(l[9]); g != gen || s != step || e != api.OK {
				t.Fatalf("it is in %d, %d, error %d; want %d, %d", g, s, int(e), gen, step)
			}
			if !slices.Equal(h.Closures(gen, step), l) || h.Left() != 2048 {
				t.Fatalf("the space %d, %d has not all; %d blocks are left", gen, step, h.Left())
			}
			l = moveAll(t, h, gen, l)
		}
	}
	for i, at := range l {
		ptr, e := h.Ptr(at, 0)
		if e != api.OK || i > 0 && ptr != l[i-1] || i == 0 && ptr != 0 {
			t.Fatalf("the variable %d points to %d, error %d", i, ptr, int(e))
		}
	}
	// Each of them is put into the oldest one's list, and out of it again.
	num := layOn(t, h, api.Head{Kind: api.KInt, Nons: 1}, nil, []uint64{1})
	for _, at := range l {
		expect(t, "Set", h.Set(at, 0, num), api.OK)
	}
	if !slices.Equal(h.Old(3), slices.Sorted(slices.Values(l))) {
		t.Error("not all stand in the list")
	}
	expect(t, "Begin", h.Begin(0), api.OK)
	to, e := h.Evacuate(num, 3)
	expect(t, "Evacuate", e, api.OK)
	for _, at := range l {
		expect(t, "Store", h.Store(at, 0, to), api.OK)
	}
	expect(t, "Finish", h.Finish(), api.OK)
	if len(h.Old(3)) != 0 || h.Used(3) != 2047*64+2 {
		t.Errorf("%d are listed, %d words", len(h.Old(3)), h.Used(3))
	}
}

// KInds as many as there is room for, one behind the other and in a ring.
func TestPassOverMany(t *testing.T) {
	h := great(t)
	thunk := layOn(t, h, api.Head{Kind: api.KThunk, Ptrs: 1}, []int{0}, nil)
	first := layOn(t, h, api.Head{Kind: api.KInd, Ptrs: 1}, []int{thunk}, nil)
	last := first
	for range 4095*32 - 3 {
		last = layOn(t, h, api.Head{Kind: api.KInd, Ptrs: 1}, []int{last}, nil)
	}
	other := layOn(t, h, api.Head{Kind: api.KHole, Nons: 1}, nil, []uint64{5})
	expect(t, "Pass back", h.Pass(thunk, last), api.ErrLoop)
	expect(t, "Pass of another", h.Pass(other, last), api.OK)
	expect(t, "Set", h.Set(first, 0, last), api.OK)
	expect(t, "Pass into the ring", h.Pass(thunk, last), api.OK)
	expect(t, "Pass of what was passed", h.Pass(thunk, last), api.ErrKind)
	expect(t, "Head of the next", h.Hole(first), api.ErrKind)
	if h.Left() != 0 {
		t.Errorf("%d blocks are left", h.Left())
	}
}

// The greatest closures, moved through the generations with a greatest list of words.
func TestGreatestClosuresMove(t *testing.T) {
	p := plain(t, 3, 2, 1+64*4)
	var nons []uint64
	for i := range 4094 {
		nons = append(nons, 1<<63|uint64(i)*7)
	}
	num := p.num(t, 3)
	ind := p.must(t, api.Head{Kind: api.KInd, Ptrs: 1, Nons: 4094}, []int{num}, nons)
	for range 6 {
		ind = p.collect(t, 2, root{ind, 0})[0]
		p.check(t, "a greatest closure that moved")
	}
	arr := p.filled(t, api.Head{Kind: api.KArr, Ptrs: 1024}, ind)
	l := p.collect(t, 0, root{arr, 2})
	p.check(t, "an array that moved")
	hole := p.must(t, api.Head{Kind: api.KHole, Nons: 4095 - 1200}, nil, make([]uint64, 4095-1200))
	expect(t, "Set", p.set(t, l[0], 1023, hole), api.OK)
	expect(t, "Fail", p.fail(t, hole, 9999), api.OK)
	p.check(t, "an array that holds a younger one")
}
