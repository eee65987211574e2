package collect_test

import (
	"math/rand/v2"
	"testing"

	"midden/api"
	"midden/collect"
	"midden/graph"
	"midden/heap"
)

// Heaps as great as the document allows.

// runGreat does a collection of a great heap, and holds it to graph.Short.
func runGreat(t *testing.T, what string, h *heap.Heap, gen int, roots ...int) []int {
	t.Helper()
	short := graph.Short(decode(t, h, roots))
	l, e := collect.Run(h, gen, roots)
	expect(t, what, e, api.OK)
	if !graph.Same(short, graph.Short(decode(t, h, l))) {
		t.Fatalf("%s: Short is another one", what)
	}
	return l
}

func TestRowOfCons(t *testing.T) {
	for gens := 1; gens <= api.MaxGens; gens += 3 {
		h := made(t, gens, 1, api.MaxBlocks, 8)
		n := layNum(t, h, 5)
		at := n
		for range 65400 {
			at = layCon(t, h, 0, at)
		}
		l := []int{at, n}
		for gen := range gens {
			l = runGreat(t, "a row of KCons", h, gen, l...)
		}
		if u := h.Used(gens - 1); u != 2+2*65400 {
			t.Errorf("there are %d words", u)
		}
		wantNum(t, "its end", h, l[1], 5)
	}
}

func TestRowOfInds(t *testing.T) {
	h := made(t, 2, 1, api.MaxBlocks, 0)
	n := layNum(t, h, 5)
	row := []int{n}
	for range 4000 * 32 {
		row = append(row, layInd(t, h, row[len(row)-1]))
	}
	// Many pointers come into the row, at many places, nearest ahead of far ones and the other way about.
	var roots []int
	for i := range 3 * 1024 {
		roots = append(roots, row[len(row)-1-i*(i%3)*14])
	}
	l := runGreat(t, "a row of KInds", h, 0, roots...)
	for _, at := range l {
		if at != l[0] {
			t.Fatal("the roots are not one")
		}
	}
	wantNum(t, "its end", h, l[0], 5)
	if u := h.Used(1); u != 2 {
		t.Errorf("there are %d words", u)
	}
}

// All of a row is reached by pointers of its own.
func TestArraysOfARow(t *testing.T) {
	h := made(t, 1, 1, api.MaxBlocks, 1)
	at := layInd(t, h, 0)
	first := at
	var arrs []int
	for range 50 {
		var items []int
		for range api.MaxItems {
			at = layInd(t, h, at)
			items = append(items, at)
		}
		arrs = append(arrs, layArr(t, h, items...))
	}
	set(t, h, first, 0, at)
	l := runGreat(t, "arrays of a ring of KInds", h, 0, arrs...)
	wantKind(t, "an item", h, ptr(t, h, l[9], 900), api.KInd)
	if u := h.Used(0); u != 2+50*1025 {
		t.Errorf("there are %d words", u)
	}
}

func TestRowOfSels(t *testing.T) {
	for _, hops := range []int{0, 1, 8} {
		h := made(t, 1, 1, api.MaxBlocks, hops)
		one := layNum(t, h, 5)
		within := one
		for range 9000 {
			one = laySel(t, h, 1, layCon(t, h, 1, one), 0)
			within = laySel(t, h, 1, within, 0)
		}
		l := []int{one, within}
		for range 3 {
			l = runGreat(t, "a row of KSels", h, 0, l...)
		}
	}
}

// Each of these KSels has one in its pointer, and one behind it, from both of which the way goes through all that follow: there are 2 to the hops ways, and many pointers.
func TestManyWays(t *testing.T) {
	h := made(t, 2, 1, api.MaxBlocks, api.MaxHops)
	n := layNum(t, h, 5)
	ind := layInd(t, h, n)
	s := ind
	for range api.MaxHops {
		// What s comes to behind its own KSels is a KCon whose field is s again.
		c := layCon(t, h, 1, s)
		s = laySel(t, h, 1, laySel(t, h, 1, layCon(t, h, 1, c), 0), 0)
	}
	var arrs []int
	for range 100 {
		items := make([]int, api.MaxItems)
		for i := range items {
			items[i] = s
		}
		arrs = append(arrs, layArr(t, h, items...))
	}
	runGreat(t, "many ways", h, 0, arrs...)
}

// greatHeap makes a heap of closures that point to whatever was laid ahead of them, or, turned later, behind them.
func greatHeap(t *testing.T, rnd *rand.Rand, h *heap.Heap, many int) []int {
	t.Helper()
	var all []int
	some := func() int { return all[rnd.IntN(len(all))] }
	near := func() int { return all[max(0, len(all)-1-rnd.IntN(4))] }
	all = append(all, layNum(t, h, 1))
	for range many {
		switch rnd.IntN(6) {
		case 0:
			all = append(all, layInd(t, h, near()))
		case 1, 2:
			all = append(all, laySel(t, h, 0, near(), uint64(rnd.IntN(2))))
		case 3:
			all = append(all, layRef(t, h, some()))
		default:
			all = append(all, layCon(t, h, 0, near(), some()))
		}
	}
	for range many / 5 {
		h.Set(some(), rnd.IntN(2), some())
	}
	return all
}

func TestGreatHeaps(t *testing.T) {
	rnd := rand.New(rand.NewPCG(3, 20))
	for _, c := range []api.Config{{Gens: 1, Steps: 1}, {Gens: 2, Steps: 1}, {Gens: 4, Steps: 3}} {
		c.Blocks, c.Nursery, c.Hops = api.MaxBlocks, 1, rnd.IntN(9)
		h, e := heap.New(c)
		expect(t, "New", e, api.OK)
		var roots []int
		for i := range 6 {
			all := greatHeap(t, rnd, h, 6000)
			for range 500 {
				old := all[rnd.IntN(len(all))]
				if len(roots) > 0 {
					old = roots[rnd.IntN(len(roots))]
				}
				h.Set(old, 0, all[rnd.IntN(len(all))])
			}
			for range 50 {
				roots = append(roots, all[rnd.IntN(len(all))])
			}
			roots = runGreat(t, "a great heap", h, i%c.Gens, roots...)
			checkLists(t, "a great heap", shotOf(h))
		}
	}
}
