package heap_test

import (
	"fmt"
	"testing"

	"midden/api"
	"midden/heap"
)

// Heaps that are nil, and heaps that are dead: every call.

// checkGone makes every call of a heap with which nothing can be done, with arguments that would do and such as are wrong.
func checkGone(t *testing.T, h *heap.Heap, want api.Errno) {
	t.Helper()
	for _, at := range append(farNumbers(), 0, 1, 63, 64, 65, 66, 67, 68, 128) {
		for _, i := range []int{-1, 0, 1, 9} {
			what := fmt.Sprintf("of the place %d and the number %d", at, i)
			x, e := h.Head(at)
			ptr, e2 := h.Ptr(at, i)
			non, e3 := h.Non(at, i)
			gen, step, e4 := h.Where(at)
			to, e5 := h.Evacuate(at, i)
			for _, got := range []api.Errno{e, e2, e3, e4, e5, h.Set(at, i, at), h.Store(at, i, at), h.Pass(at, i), h.Hole(at), h.Fail(at, 9), h.Fail(at, 0), h.Begin(at), h.Begin(i), h.Finish()} {
				if got != want {
					t.Errorf("%s: error %d; want %d", what, int(got), int(want))
				}
			}
			if x != (api.Head{}) || ptr != 0 || non != 0 || gen != 0 || step != 0 || to != 0 {
				t.Errorf("%s: %+v, %d, %d, %d, %d, %d", what, x, ptr, non, gen, step, to)
			}
			if l := h.Closures(at, i); len(l) != 0 {
				t.Errorf("%s: Closures %v", what, l)
			}
			if l := h.Closures(i, at); len(l) != 0 {
				t.Errorf("%s: Closures %v", what, l)
			}
		}
		checkNothing(t, h, at)
	}
	for _, x := range append(heads(), api.Head{}) {
		for _, n := range []int{0, 1, 2} {
			at, e := h.Lay(x, make([]int, n), make([]uint64, x.Nons))
			if at != 0 || e != want {
				t.Errorf("Lay of %+v = %d, error %d; want 0, error %d", x, at, int(e), int(want))
			}
		}
	}
}

// checkNothing holds what tells no error to tell nothing.
func checkNothing(t *testing.T, h *heap.Heap, n int) {
	t.Helper()
	if len(h.Old(n)) != 0 || h.Used(n) != 0 || h.Blocks(n) != 0 || h.Left() != 0 {
		t.Errorf("of %d: Old %v, Used %d, Blocks %d, Left %d", n, h.Old(n), h.Used(n), h.Blocks(n), h.Left())
	}
	if to, ok := h.Moved(n); to != 0 || ok {
		t.Errorf("Moved(%d) = %d, %t", n, to, ok)
	}
	if at, ok := h.Fresh(); at != 0 || ok {
		t.Errorf("Fresh = %d, %t", at, ok)
	}
}

func TestNilHeap(t *testing.T) {
	checkGone(t, nil, api.ErrNil)
	var h *heap.Heap
	if c := h.Config(); c != (api.Config{}) {
		t.Errorf("Config of a nil heap: %+v", c)
	}
}

// checkDead holds a heap that has died.
func checkDead(t *testing.T, p *pair) {
	t.Helper()
	checkGone(t, p.h, api.ErrDead)
	if c := p.h.Config(); c != p.r.c || c.Gens == 0 {
		t.Errorf("Config of a dead heap: %+v; want %+v", c, p.r.c)
	}
	p.checkAll(t, "dead")
	// The rule knows of its death, too: every call with arguments that would do.
	p.num2(t)
	for at := range 200 {
		p.evacuate(t, at, 0)
		p.store(t, at, 0, 0)
		p.set(t, at, 0, 0)
		p.pass(t, at, 64)
		p.hole(t, at)
		p.fail(t, at, 1)
		p.fresh(t)
	}
	p.begin(t, 0)
	p.finish(t)
}

// num2 lays two numbers, or none, whatever the answer.
func (p *pair) num2(t *testing.T) {
	t.Helper()
	for range 2 {
		p.lay(t, api.Head{Kind: api.KInt, Nons: 1}, nil, []uint64{1})
	}
}

// Want of room for what moves is the heap's death, for each generation that it might go to.
func TestEvacuateWithoutRoom(t *testing.T) {
	for least := range 3 {
		p := plain(t, 3, 2, 3)
		hole := p.filled(t, api.Head{Kind: api.KHole, Nons: 60}, 0)
		other := p.filled(t, api.Head{Kind: api.KHole, Nons: 60}, 0)
		expect(t, "Begin", p.begin(t, 2), api.OK)
		to, e := p.evacuate(t, hole, least)
		if to != 0 || e != api.ErrFull {
			t.Errorf("Evacuate at least %d = %d, error %d; want error %d", least, to, int(e), int(api.ErrFull))
		}
		checkDead(t, p)
		p.evacuate(t, other, least)
	}
}

// Room in another space than that to which it goes is none.
func TestEvacuateWithRoomElsewhere(t *testing.T) {
	p := plain(t, 3, 1, 4)
	a := p.num(t, 1)
	b := p.num(t, 2)
	hole := p.filled(t, api.Head{Kind: api.KHole, Nons: 100}, 0)
	expect(t, "Begin", p.begin(t, 0), api.OK)
	_, e := p.evacuate(t, a, 1)
	expect(t, "Evacuate where no block is left", e, api.ErrFull)
	checkDead(t, p)
	p.evacuate(t, b, 2)
	p.evacuate(t, hole, 0)

	p = plain(t, 3, 1, 4)
	a, b = p.num(t, 1), p.num(t, 2)
	p.filled(t, api.Head{Kind: api.KHole, Nons: 62}, 0)
	expect(t, "Begin", p.begin(t, 0), api.OK)
	p.move(t, a, 1)
	p.check(t, "one went")
	_, e = p.evacuate(t, b, 2)
	expect(t, "Evacuate to a generation for which no block is left", e, api.ErrFull)
	checkDead(t, p)
}

// The last words that are left are room.
func TestEvacuateWithJustRoom(t *testing.T) {
	p := plain(t, 2, 1, 5)
	a := p.filled(t, api.Head{Kind: api.KHole, Nons: 127}, 0)
	expect(t, "Begin", p.begin(t, 1), api.OK)
	a = p.move(t, a, 0)
	if p.h.Left() != 0 {
		t.Errorf("%d blocks are left", p.h.Left())
	}
	p.check(t, "just room")
	expect(t, "Finish", p.finish(t), api.OK)
	p.check(t, "just room, finished")
	p.filled(t, api.Head{Kind: api.KHole, Nons: 127}, 0)
	expect(t, "Begin", p.begin(t, 0), api.OK)
	expect(t, "Finish", p.finish(t), api.OK)
	p.check(t, "an old one alone")
	if x, e := p.h.Head(a); x.Nons != 127 || e != api.OK {
		t.Errorf("the old one is %+v, error %d", x, int(e))
	}
}

// A dead heap is dead alone: another one goes on.
func TestAnotherHeapGoesOn(t *testing.T) {
	one, other := plain(t, 2, 1, 3), plain(t, 2, 1, 3)
	for _, p := range []*pair{one, other} {
		p.ref(t, p.num(t, 1))
		p.filled(t, api.Head{Kind: api.KHole, Nons: 60}, 0)
	}
	expect(t, "Begin", one.begin(t, 1), api.OK)
	_, e := one.evacuate(t, 64, 0)
	expect(t, "Evacuate", e, api.ErrFull)
	checkDead(t, one)
	other.checkAll(t, "another heap")
	expect(t, "Hole", other.hole(t, 128), api.OK)
	other.checkAll(t, "another heap")
}
