package collect_test

import (
	"fmt"
	"math"
	"testing"

	"midden/api"
	"midden/heap"
)

// The words: what is passed over.

func TestIndsInARow(t *testing.T) {
	for _, many := range []int{0, 1, 2, 9, 40} {
		h := made(t, 2, 1, 30, 0)
		at := layNum(t, h, 4)
		for range many {
			at = layInd(t, h, at)
		}
		c := layCon(t, h, 0, at)
		l := must(t, "a row", h, 0, at, c)
		wantNum(t, "the root", h, l[0], 4)
		if ptr(t, h, l[1], 0) != l[0] {
			t.Error("the field is another one")
		}
		if used := h.Used(0) + h.Used(1); used != 4 {
			t.Errorf("there are %d words behind a row of %d", used, many)
		}
	}
}

func TestIndToNothing(t *testing.T) {
	h := made(t, 1, 1, 30, 8)
	empty := layInd(t, h, 0)
	before := layInd(t, h, layInd(t, h, empty))
	c := layCon(t, h, 0, before, empty)
	l := must(t, "a KInd that points to nothing", h, 0, before, empty, c)
	wantKind(t, "the root", h, l[0], api.KInd)
	if l[0] != l[1] || ptr(t, h, l[0], 0) != 0 || ptr(t, h, l[2], 0) != l[0] || ptr(t, h, l[2], 1) != l[0] {
		t.Errorf("the roots are %v", l)
	}
	if n := len(h.Closures(0, 0)); n != 2 {
		t.Errorf("there are %d closures", n)
	}
}

func TestRingsOfInds(t *testing.T) {
	for _, many := range []int{1, 2, 3, 7} {
		for _, lead := range []int{0, 1, 5} {
			for from := range many {
				h := made(t, 2, 1, 30, 2)
				ring := []int{layInd(t, h, 0)}
				for len(ring) < many {
					ring = append(ring, layInd(t, h, ring[len(ring)-1]))
				}
				set(t, h, ring[0], 0, ring[many-1])
				at := ring[from]
				for range lead {
					at = layInd(t, h, at)
				}
				s := laySel(t, h, 0, at, 0)
				c := layCon(t, h, 0, s, at, ring[0])
				what := fmt.Sprintf("a ring of %d, with %d that lead to %d", many, lead, from)
				l := must(t, what, h, 0, at, c, at)
				wantKind(t, what, h, l[0], api.KInd)
				if n := h.Used(1); n > 4+3+2*many {
					t.Errorf("%s: there are %d words", what, n)
				}
				for range 3 {
					l = must(t, what+", once more", h, 1, l...)
				}
				must(t, what+", alone", h, 1, l[0])
			}
		}
	}
}

func TestField(t *testing.T) {
	for _, x := range []struct {
		name      string
		con, sel  int
		field     uint64
		passed    bool
		emptyLast bool
	}{
		{"the first field", 7, 7, 0, true, false},
		{"the last field", 7, 7, 2, true, false},
		{"a field beyond", 7, 7, 3, false, false},
		{"a field far beyond", 7, 7, 8, false, false},
		{"a field as great as there is", 7, 7, math.MaxUint64, false, false},
		{"a field that is none of int", 7, 7, 1 << 63, false, false},
		{"a field beyond 32 bits", 7, 7, 1 << 32, false, false},
		{"another constructor", 7, 6, 0, false, false},
		{"constructor 0", 0, 7, 0, false, false},
		{"the greatest constructor", api.MaxInfo - 1, api.MaxInfo - 1, 1, true, false},
		{"a field that is 0", 7, 7, 2, false, true},
	} {
		build := func() (*heap.Heap, int, int) {
			h := made(t, 1, 1, 8, 1)
			n := layNum(t, h, 9)
			last := n
			if x.emptyLast {
				last = 0
			}
			c := layCon(t, h, x.con, n, n, last)
			return h, c, laySel(t, h, x.sel, c, x.field)
		}
		h, c, s := build()
		must(t, x.name+", when the KCon was turned ahead", h, 0, c, layCon(t, h, 3, s))
		h, _, s = build()
		l := must(t, x.name, h, 0, s, layCon(t, h, 3, s))
		if ptr(t, h, l[1], 0) != l[0] {
			t.Errorf("%s: the root is %d and the field is %d", x.name, l[0], ptr(t, h, l[1], 0))
		}
		if x.passed {
			wantNum(t, x.name, h, l[0], 9)
		} else {
			wantKind(t, x.name, h, l[0], api.KSel)
			wantKind(t, x.name, h, ptr(t, h, l[0], 0), api.KCon)
		}
	}
}

// A KSel's pointer may lead to whatever: it is a KCon's field alone that is picked out.
func TestSelOfOthers(t *testing.T) {
	h := made(t, 1, 1, 900, 8)
	n := layNum(t, h, 1)
	all := fill(t, h, func(int) int { return n })
	var sels []int
	for _, p := range append(all, 0) {
		for _, info := range []int{0, 1, 2, 3, 4, api.MaxInfo - 1} {
			sels = append(sels, laySel(t, h, info, p, 0))
		}
	}
	l := must(t, "KSels of each kind", h, 0, sels...)
	kinds := map[int]int{}
	for _, at := range l {
		x, _ := h.Head(at)
		kinds[x.Kind]++
	}
	if kinds[api.KInt] != 1 || kinds[api.KSel] != len(sels)-1 {
		t.Errorf("the roots are of kinds %v", kinds)
	}
}

// fields lays KSels one behind the other: each is for a KCon's field that is the next one.
func fields(t *testing.T, h *heap.Heap, many int, last int) int {
	t.Helper()
	at := last
	for range many {
		at = laySel(t, h, 1, layCon(t, h, 1, at), 0)
	}
	return at
}

// nested lays KSels one within the other: each is for a field of what the next one is for.
func nested(t *testing.T, h *heap.Heap, many int, last int) int {
	t.Helper()
	at := last
	for range many {
		at = layCon(t, h, 1, at)
	}
	for range many {
		at = laySel(t, h, 1, at, 0)
	}
	return at
}

func TestHops(t *testing.T) {
	for hops := range api.MaxHops + 1 {
		for many := range hops + 3 {
			for name, build := range map[string]func(*testing.T, *heap.Heap, int, int) int{"one behind the other": fields, "one within the other": nested} {
				h := made(t, 1, 1, 8, hops)
				s := build(t, h, many, layNum(t, h, 6))
				what := fmt.Sprintf("%d KSels %s, %d hops", many, name, hops)
				l := must(t, what, h, 0, s)
				if many <= hops {
					wantNum(t, what, h, l[0], 6)
					continue
				}
				wantKind(t, what, h, l[0], api.KSel)
				for range many {
					l = must(t, what+", again", h, 0, l...)
				}
				if hops > 0 {
					wantNum(t, what+", in the end", h, l[0], 6)
				} else {
					wantKind(t, what+", in the end", h, l[0], api.KSel)
				}
			}
		}
	}
}

// Behind a KSel, and in its pointer, there is one less: the two KSels here are the second one and one in its pointer.
func TestHopsInASecondOne(t *testing.T) {
	for hops := range 5 {
		h := made(t, 1, 1, 8, hops)
		inner := layCon(t, h, 1, layNum(t, h, 6))
		second := laySel(t, h, 1, laySel(t, h, 1, layCon(t, h, 1, inner), 0), 0)
		first := laySel(t, h, 1, layCon(t, h, 1, second), 0)
		l := must(t, "a KSel behind which one has one within", h, 0, first)
		if hops >= 3 {
			wantNum(t, "three hops are enough", h, l[0], 6)
		} else {
			wantKind(t, "two hops are not", h, l[0], api.KSel)
		}
	}
}

func TestSelsAndInds(t *testing.T) {
	for hops := range 3 {
		h := made(t, 1, 1, 8, hops)
		n := layNum(t, h, 6)
		ind := func(p, many int) int {
			for range many {
				p = layInd(t, h, p)
			}
			return p
		}
		c := layCon(t, h, 1, 0, ind(n, 3))
		s := laySel(t, h, 1, ind(c, 4), 1)
		d := layCon(t, h, 2, ind(s, 2))
		u := ind(laySel(t, h, 2, ind(d, 1), 0), 5)
		l := must(t, "KSels and KInds", h, 0, u, s)
		if hops > 0 {
			wantNum(t, "the second root", h, l[1], 6)
		}
		if hops > 1 {
			wantNum(t, "the first root", h, l[0], 6)
		}
	}
}

func TestSelsInRings(t *testing.T) {
	for hops := range api.MaxHops + 1 {
		h := made(t, 2, 1, 30, hops)
		self := laySel(t, h, 0, 0, 0) // of itself
		set(t, h, self, 0, self)
		far := laySel(t, h, 0, 0, 0) // of itself, by way of a KInd
		set(t, h, far, 0, layInd(t, h, far))
		own := laySel(t, h, 1, 0, 0) // for a field that is the KSel
		set(t, h, own, 0, layCon(t, h, 1, own))
		way := laySel(t, h, 1, 0, 0) // for a field that is a KInd to the KSel
		set(t, h, way, 0, layCon(t, h, 1, layInd(t, h, way)))
		one, two := laySel(t, h, 0, 0, 0), laySel(t, h, 0, 0, 0) // of one another
		set(t, h, one, 0, two)
		set(t, h, two, 0, one)
		three, four := laySel(t, h, 3, 0, 0), laySel(t, h, 3, 0, 0) // for one another
		set(t, h, three, 0, layCon(t, h, 3, four))
		set(t, h, four, 0, layCon(t, h, 3, three))
		roots := []int{self, far, own, way, one, two, three, four}
		for i := range 6 {
			roots = must(t, fmt.Sprintf("KSels in rings, %d hops", hops), h, i%2, roots...)
			for _, at := range roots {
				wantKind(t, "each root", h, at, api.KSel)
			}
		}
	}
}

// What pointers become hangs on the heap as it was, not on what was turned ahead of them.
func TestTurnedAhead(t *testing.T) {
	for _, hops := range []int{1, 2, 3} {
		h := made(t, 2, 1, 30, hops)
		n := layNum(t, h, 6)
		c := layCon(t, h, 1, n)
		var all []int
		for range 5 {
			s := laySel(t, h, 1, c, 0)
			c = layCon(t, h, 1, s)
			all = append(all, c, s)
		}
		// Each KCon is moved and turned ahead of the array, which has all KSels.
		arr := layArr(t, h, all...)
		roots := append(all, layCon(t, h, 9, layCon(t, h, 9, arr)))
		must(t, "an array of all", h, 0, roots...)
	}
}

// Some of what is passed over is old, listed or not, some young.
func TestPassedOldAndYoung(t *testing.T) {
	for hops := range 3 {
		h := made(t, 3, 1, 60, hops)
		n := layNum(t, h, 1)
		c := layCon(t, h, 1, n, 0, n)
		old := layRef(t, h, c)
		keep := layInd(t, h, 0)
		s := laySel(t, h, 1, c, 1)
		l := aged(t, h, 2, old, keep, s, c)
		old, keep, s, c = l[0], l[1], l[2], l[3]
		must(t, "old ones alone", h, 0, old, keep, s, c)
		young := layNum(t, h, 2)
		set(t, h, c, 1, layInd(t, h, young))
		set(t, h, keep, 0, layInd(t, h, s))
		set(t, h, old, 0, laySel(t, h, 1, layInd(t, h, c), 1))
		must(t, "old and young ones", h, 0, old, keep, s, c, layCon(t, h, 0, keep, s, young))
		must(t, "old and young ones, again", h, 1, old, keep, s, c)
		must(t, "all", h, 2, old, keep, s, c)
	}
}
