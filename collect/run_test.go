package collect_test

import (
	"math"
	"slices"
	"testing"

	"midden/api"
	"midden/collect"
	"midden/heap"
)

// made makes a heap.
func made(t *testing.T, gens, steps, blocks, hops int) *heap.Heap {
	t.Helper()
	h, e := heap.New(api.Config{Gens: gens, Steps: steps, Blocks: blocks, Nursery: 1, Hops: hops})
	expect(t, "New", e, api.OK)
	return h
}

func lay(t *testing.T, h *heap.Heap, x api.Head, ptrs []int, nons []uint64) int {
	t.Helper()
	at, e := h.Lay(x, ptrs, nons)
	expect(t, "Lay", e, api.OK)
	return at
}

func layNum(t *testing.T, h *heap.Heap, n uint64) int {
	t.Helper()
	return lay(t, h, api.Head{Kind: api.KInt, Nons: 1}, nil, []uint64{n})
}

func layCon(t *testing.T, h *heap.Heap, info int, ptrs ...int) int {
	t.Helper()
	return lay(t, h, api.Head{Kind: api.KCon, Info: info, Ptrs: len(ptrs)}, ptrs, nil)
}

func layInd(t *testing.T, h *heap.Heap, p int) int {
	t.Helper()
	return lay(t, h, api.Head{Kind: api.KInd, Ptrs: 1}, []int{p}, nil)
}

func laySel(t *testing.T, h *heap.Heap, info, of int, field uint64) int {
	t.Helper()
	return lay(t, h, api.Head{Kind: api.KSel, Info: info, Ptrs: 1, Nons: 1}, []int{of}, []uint64{field})
}

func layRef(t *testing.T, h *heap.Heap, p int) int {
	t.Helper()
	return lay(t, h, api.Head{Kind: api.KRef, Ptrs: 1}, []int{p}, nil)
}

func layArr(t *testing.T, h *heap.Heap, ptrs ...int) int {
	t.Helper()
	return lay(t, h, api.Head{Kind: api.KArr, Ptrs: len(ptrs)}, ptrs, nil)
}

func set(t *testing.T, h *heap.Heap, at, i, p int) {
	t.Helper()
	expect(t, "Set", h.Set(at, i, p), api.OK)
}

// aged moves what the roots reach on till the first one is of a generation.
func aged(t *testing.T, h *heap.Heap, gen int, roots ...int) []int {
	t.Helper()
	for {
		in, _, e := h.Where(roots[0])
		expect(t, "Where", e, api.OK)
		if in >= gen {
			return roots
		}
		roots, e = collect.Run(h, in, roots)
		expect(t, "Run", e, api.OK)
	}
}

// wantNum holds a closure to a number's.
func wantNum(t *testing.T, what string, h *heap.Heap, at int, n uint64) {
	t.Helper()
	x, e := h.Head(at)
	expect(t, what+": Head", e, api.OK)
	if x.Kind != api.KInt {
		t.Fatalf("%s: it is %v; want the number %d", what, x, n)
	}
	if w, _ := h.Non(at, 0); w != n {
		t.Errorf("%s: it is %d; want %d", what, w, n)
	}
}

func wantKind(t *testing.T, what string, h *heap.Heap, at, kind int) {
	t.Helper()
	if x, e := h.Head(at); e != api.OK || x.Kind != kind {
		t.Fatalf("%s: it is %v, error %d; want kind %d", what, x, int(e), kind)
	}
}

func ptr(t *testing.T, h *heap.Heap, at, i int) int {
	t.Helper()
	p, e := h.Ptr(at, i)
	expect(t, "Ptr", e, api.OK)
	return p
}

func where(t *testing.T, h *heap.Heap, at int) place {
	t.Helper()
	gen, step, e := h.Where(at)
	expect(t, "Where", e, api.OK)
	return place{gen, step}
}

// P20.1

func TestExample(t *testing.T) {
	h := made(t, 1, 1, 8, 0)
	n := layNum(t, h, 5)
	i := layInd(t, h, n)
	l := must(t, "a KInd", h, 0, i)
	wantNum(t, "the root", h, l[0], 5)
	if all := h.Closures(0, 0); len(all) != 1 {
		t.Errorf("there are %v", all)
	}
}

func TestNilHeap(t *testing.T) {
	for _, roots := range [][]int{nil, {}, {0}, {0, 64}, {-1}, {math.MaxInt, math.MinInt}} {
		for _, gen := range []int{0, -1, 4, math.MaxInt, math.MinInt} {
			if l, e := collect.Run(nil, gen, roots); e != api.ErrNil || len(l) > 0 {
				t.Errorf("Run of a nil heap, %d, %v: %v, error %d", gen, roots, l, int(e))
			}
		}
	}
}

// deadHeap makes one that died for want of room, with the address of what had been a closure.
func deadHeap(t *testing.T) (*heap.Heap, int) {
	t.Helper()
	h := made(t, 1, 1, 2, 0)
	at := layNum(t, h, 1)
	if l, e := collect.Run(h, 0, []int{at}); e != api.ErrFull || len(l) > 0 {
		t.Fatalf("Run without room: %v, error %d", l, int(e))
	}
	return h, at
}

func TestDeadHeap(t *testing.T) {
	h, at := deadHeap(t)
	for _, roots := range [][]int{nil, {0}, {at}, {0, at}, {-1}, {math.MaxInt}} {
		for _, gen := range []int{0, -1, 1, math.MaxInt, math.MinInt} {
			if l, e := collect.Run(h, gen, roots); e != api.ErrDead || len(l) > 0 {
				t.Errorf("Run of a dead heap, %d, %v: %v, error %d", gen, roots, l, int(e))
			}
		}
	}
	if c := h.Config(); c.Blocks != 2 {
		t.Errorf("a dead heap's Config is %v", c)
	}
}

// busySight is what a heap tells of itself while a collection is under way.
func busySight(h *heap.Heap, most int) []int {
	l := []int{h.Left()}
	for gen := range h.Config().Gens {
		l = append(append(l, h.Used(gen), h.Blocks(gen)), h.Old(gen)...)
	}
	for at := range most {
		x, e := h.Head(at)
		to, _ := h.Moved(at)
		l = append(l, int(e), to, x.Kind)
		for i := range x.Ptrs {
			p, _ := h.Ptr(at, i)
			l = append(l, p)
		}
	}
	return l
}

func TestBusyHeap(t *testing.T) {
	h := made(t, 2, 1, 8, 1)
	n := layNum(t, h, 1)
	c := layCon(t, h, 0, n)
	expect(t, "Begin", h.Begin(0), api.OK)
	to, e := h.Evacuate(c, 0)
	expect(t, "Evacuate", e, api.OK)
	was := busySight(h, 300)
	for _, x := range []struct {
		gen   int
		roots []int
		want  api.Errno
	}{
		{0, nil, api.ErrWork},
		{-1, nil, api.ErrWork},
		{2, []int{0, 0}, api.ErrWork},
		{0, []int{n, to}, api.ErrWork}, // n is yet to be looked at, and to is a closure's
		{1, []int{n, to}, api.ErrWork},
		{0, []int{n, c}, api.ErrRange}, // c has moved
		{0, []int{c}, api.ErrRange},
		{9, []int{0, 1}, api.ErrRange},
	} {
		if l, e := collect.Run(h, x.gen, x.roots); e != x.want || len(l) > 0 {
			t.Errorf("Run in the midst of a collection, %d, %v: %v, error %d; want %d", x.gen, x.roots, l, int(e), int(x.want))
		}
	}
	if !slices.Equal(busySight(h, 300), was) {
		t.Error("what was refused changed the heap")
	}
	// That collection can be ended as if nothing had been asked.
	at, _ := h.Fresh()
	num, e := h.Evacuate(n, 0)
	expect(t, "Evacuate", e, api.OK)
	expect(t, "Store", h.Store(at, 0, num), api.OK)
	expect(t, "Finish", h.Finish(), api.OK)
	wantNum(t, "the field", h, ptr(t, h, to, 0), 1)
}

func TestWrongGenerationsAndRoots(t *testing.T) {
	for gens := 1; gens <= api.MaxGens; gens++ {
		h := made(t, gens, 2, 20, 8)
		a := layNum(t, h, 1)
		c := layCon(t, h, 2, a, a)
		was := busySight(h, 400)
		for _, x := range []struct {
			gen   int
			roots []int
			want  api.Errno
		}{
			{-1, nil, api.ErrArg},
			{-1, []int{c, 0, a}, api.ErrArg},
			{gens, []int{c}, api.ErrArg},
			{gens + 1, []int{0}, api.ErrArg},
			{math.MaxInt, nil, api.ErrArg},
			{math.MinInt, nil, api.ErrArg},
			{1 << 32, []int{a}, api.ErrArg},
			{-1 << 32, []int{a}, api.ErrArg},
			{0, []int{c + 1}, api.ErrRange},
			{0, []int{c, a, 0, c - 1}, api.ErrRange},
			{0, []int{-c}, api.ErrRange},
			{0, []int{1}, api.ErrRange},
			{0, []int{math.MaxInt}, api.ErrRange},
			{0, []int{math.MinInt, c}, api.ErrRange},
			{0, []int{a + 1<<32}, api.ErrRange},
			{0, []int{a + 1<<62}, api.ErrRange},
			{-1, []int{c, c + 1}, api.ErrRange}, // the root's error comes first
			{gens, []int{-1}, api.ErrRange},
			{math.MaxInt, []int{0, -1}, api.ErrRange},
		} {
			handed := roomy(x.roots)
			if l, e := collect.Run(h, x.gen, handed); e != x.want || len(l) > 0 {
				t.Errorf("Run of %d, %v: %v, error %d; want %d", x.gen, x.roots, l, int(e), int(x.want))
			}
			if !slices.Equal(handed, x.roots) {
				t.Errorf("the roots %v are %v", x.roots, handed)
			}
			if !slices.Equal(busySight(h, 400), was) {
				t.Fatalf("Run of %d, %v changed the heap", x.gen, x.roots)
			}
			expect(t, "Store", h.Store(c, 0, a), api.ErrWork)
		}
		for gen := range gens {
			l := must(t, "each generation", h, gen, c, 0, a, 0, c)
			if c, a = l[0], l[2]; l[1] != 0 || l[3] != 0 || l[4] != c {
				t.Errorf("the roots are %v", l)
			}
		}
	}
}

func TestNoRoots(t *testing.T) {
	for gens := 1; gens <= api.MaxGens; gens++ {
		for gen := range gens {
			h := made(t, gens, 3, 9, 0)
			for _, roots := range [][]int{nil, {}, {0}, {0, 0}} {
				must(t, "an empty heap", h, gen, roots...)
			}
			layRef(t, h, layNum(t, h, 1))
			must(t, "no roots", h, gen)
			if u := h.Used(0); u != 0 {
				t.Errorf("%d words are left", u)
			}
			layNum(t, h, 1)
			must(t, "roots that are none", h, gen, 0, 0)
			if u := h.Used(0); u != 0 {
				t.Errorf("%d words are left", u)
			}
		}
	}
}

// all kinds of closures, with no pointers and with the most, as many words as there may be, and numbers as great as there are.
func heads() []api.Head {
	return []api.Head{
		{Kind: api.KCon}, {Kind: api.KCon, Info: api.MaxInfo - 1, Ptrs: api.MaxArgs},
		{Kind: api.KInt, Nons: 1},
		{Kind: api.KFun, Info: 1}, {Kind: api.KFun, Info: api.MaxInfo - 1, Ptrs: api.MaxFree},
		{Kind: api.KPap, Ptrs: 2}, {Kind: api.KPap, Ptrs: 9},
		{Kind: api.KAp, Ptrs: 2}, {Kind: api.KAp, Ptrs: 9},
		{Kind: api.KThunk, Info: 2, Nons: 1}, {Kind: api.KThunk, Info: 3, Ptrs: api.MaxFree},
		{Kind: api.KSel, Info: 4, Ptrs: 1, Nons: 1},
		{Kind: api.KInd, Ptrs: 1}, {Kind: api.KInd, Ptrs: 1, Nons: 3}, {Kind: api.KInd, Ptrs: 1, Nons: api.MaxPart - 1},
		{Kind: api.KHole, Nons: 1}, {Kind: api.KHole, Nons: api.MaxPart},
		{Kind: api.KRef, Ptrs: 1},
		{Kind: api.KArr}, {Kind: api.KArr, Ptrs: 1}, {Kind: api.KArr, Ptrs: api.MaxItems},
		{Kind: api.KFail, Nons: 1}, {Kind: api.KFail, Nons: 5},
	}
}

// fill lays one of each kind, with pointers told by ask.
func fill(t *testing.T, h *heap.Heap, ask func(i int) int) []int {
	t.Helper()
	var all []int
	for _, x := range heads() {
		ptrs, nons := make([]int, x.Ptrs), make([]uint64, x.Nons)
		for i := range ptrs {
			ptrs[i] = ask(i)
		}
		for i := range nons {
			nons[i] = math.MaxUint64 - uint64(i)
		}
		all = append(all, lay(t, h, x, ptrs, nons))
	}
	return all
}

func TestEachKind(t *testing.T) {
	for gens := 1; gens <= 3; gens++ {
		h := made(t, gens, 2, 800, 8)
		none := fill(t, h, func(int) int { return 0 })
		some := fill(t, h, func(i int) int { return none[i%len(none)] })
		more := fill(t, h, func(i int) int { return some[(i*7+i/9)%len(some)] })
		roots := slices.Concat(more, some, none)
		for i := range 9 {
			roots = must(t, "each kind", h, i%gens, roots...)
		}
		roots = must(t, "half of them", h, gens-1, roots[:len(more)]...)
		must(t, "some of them", h, gens-1, roots[2:9]...)
	}
}

func TestSharedAndRound(t *testing.T) {
	h := made(t, 2, 2, 30, 3)
	n := layNum(t, h, 3)
	a := layCon(t, h, 1, n, n)
	b := layCon(t, h, 1, a, n)
	self := layCon(t, h, 2, n, 0)
	set(t, h, self, 1, self)
	one, two := layRef(t, h, 0), layRef(t, h, 0)
	set(t, h, one, 0, two)
	set(t, h, two, 0, one)
	layCon(t, h, 5, self, a) // which nobody reaches
	l := must(t, "shared", h, 0, b, a, b, self, two, n, n)
	if l[0] != l[2] || l[5] != l[6] || ptr(t, h, l[0], 0) != l[1] || ptr(t, h, l[0], 1) != l[5] || ptr(t, h, l[1], 0) != l[5] {
		t.Errorf("what is shared is not the same: %v", l)
	}
	if ptr(t, h, l[3], 1) != l[3] || ptr(t, h, ptr(t, h, l[4], 0), 0) != l[4] {
		t.Errorf("what goes round does not: %v", l)
	}
	if used := h.Used(0) + h.Used(1); used != 2+3+3+3+2+2 {
		t.Errorf("there are %d words", used)
	}
}

// What is answered is the caller's own.
func TestOwnAnswers(t *testing.T) {
	h := made(t, 1, 1, 8, 0)
	a := layNum(t, h, 1)
	first := must(t, "once", h, 0, a, a)
	was := slices.Clone(first)
	second := must(t, "twice", h, 0, first...)
	if &first[0] == &second[0] {
		t.Error("two answers are one list")
	}
	first[0], first[1] = -5, -6
	third := must(t, "three times", h, 0, second...)
	second[0] = -7
	wantNum(t, "the root", h, third[0], 1)
	wantNum(t, "the root again", h, third[1], 1)
	if slices.Equal(was, first) {
		t.Error("the list was not the caller's")
	}
	empty, e := collect.Run(h, 0, roomy(nil))
	expect(t, "Run", e, api.OK)
	if len(empty) != 0 {
		t.Errorf("no roots became %v", empty)
	}
}
