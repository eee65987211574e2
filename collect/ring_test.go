package collect_test

import (
	"fmt"
	"math/rand/v2"
	"slices"
	"testing"

	"midden/api"
	"midden/heap"
)

// Rings of KInds (P20.5): whatever leads into one, and wherever, behind a collection of all generations each KInd that is left points to nothing or comes to itself again.

// wantRound holds each KInd of a heap to that: it is gone on from without the model's help.
func wantRound(t *testing.T, what string, h *heap.Heap) {
	t.Helper()
	s := shotOf(h)
	for _, at := range s.sorted() {
		p := at
		for range len(s.all) + 1 {
			if p = s.on(p); p == at || p == 0 {
				break
			}
		}
		if s.on(at) != 0 && p != at {
			t.Fatalf("%s: the KInd at %d points to %d and does not go round", what, at, s.on(at))
		}
	}
}

// layRing lays KInds that go round.
func layRing(t *testing.T, h *heap.Heap, many int) []int {
	t.Helper()
	ring := []int{layInd(t, h, 0)}
	for len(ring) < many {
		ring = append(ring, layInd(t, h, ring[len(ring)-1]))
	}
	set(t, h, ring[0], 0, ring[many-1])
	return ring
}

// all does a collection of all generations.
func all(t *testing.T, what string, h *heap.Heap, roots ...int) []int {
	t.Helper()
	l := must(t, what, h, h.Config().Gens-1, roots...)
	wantRound(t, what, h)
	return l
}

// every goes over all numbers of generations, steps and hops.
func every(f func(gens, steps, hops int)) {
	for gens := 1; gens <= api.MaxGens; gens++ {
		for steps := 1; steps <= api.MaxSteps; steps++ {
			for hops := range api.MaxHops + 1 {
				f(gens, steps, hops)
			}
		}
	}
}

// A root at one place of a ring, and a KSel behind some others whose field is at another place.
func TestRingThatARootAndAKSelLeadTo(t *testing.T) {
	every(func(gens, steps, hops int) {
		for many := 1; many <= 3; many++ {
			for at := range many {
				for behind := 1; behind <= hops+1; behind++ {
					h := made(t, gens, steps, 60, hops)
					ring := layRing(t, h, many)
					s := fields(t, h, behind, ring[at])
					what := fmt.Sprintf("a ring of %d, %d KSels to number %d, %d generations, %d steps, %d hops", many, behind, at, gens, steps, hops)
					roots := []int{ring[0], s}
					if (at+behind)%2 > 0 {
						slices.Reverse(roots)
					}
					l := all(t, what, h, roots...)
					if n := len(shotOf(h).all); behind <= hops && (n != 1 || l[0] != l[1]) {
						t.Fatalf("%s: there are %d closures, and the roots are %v", what, n, l)
					}
				}
			}
		}
	})
}

// KSels within one another: each one's own pointer comes to the ring, which is no KCon.
func TestRingWithinKSels(t *testing.T) {
	every(func(gens, steps, hops int) {
		h := made(t, gens, steps, 60, hops)
		ring := layRing(t, h, 2)
		one := laySel(t, h, 0, ring[0], 0)
		two := laySel(t, h, 0, laySel(t, h, 0, layCon(t, h, 0, ring[1]), 0), 0)
		c := layCon(t, h, 0, one, two, ring[1])
		what := fmt.Sprintf("KSels of a ring, %d generations, %d steps, %d hops", gens, steps, hops)
		l := all(t, what, h, c, ring[0], two)
		wantKind(t, what, h, ptr(t, h, ptr(t, h, l[0], 0), 0), api.KInd)
		if ptr(t, h, ptr(t, h, l[0], 0), 0) != l[1] {
			t.Fatalf("%s: a KSel points to %d, and the root is %d", what, ptr(t, h, ptr(t, h, l[0], 0), 0), l[1])
		}
	})
}

// leads is what leads into a ring, at places and behind ways that are found by chance.
type leads struct {
	*rand.Rand
	t    *testing.T
	h    *heap.Heap
	ring []int
}

// way tells one that leads to some place of the ring: itself, or behind KInds and KSels.
func (x *leads) way() int {
	at := x.ring[x.IntN(len(x.ring))]
	for range x.IntN(3) {
		switch x.IntN(3) {
		case 0:
			at = layInd(x.t, x.h, at)
		case 1:
			at = fields(x.t, x.h, x.IntN(x.h.Config().Hops+2), at)
		default:
			at = nested(x.t, x.h, x.IntN(x.h.Config().Hops+2), at)
		}
	}
	return at
}

// holders lays a closure of each kind, each of whose pointers leads into the ring.
func (x *leads) holders() []int {
	var l []int
	for _, head := range heads() {
		if head.Ptrs == 0 || head.Ptrs > api.MaxFree {
			continue
		}
		ptrs := make([]int, head.Ptrs)
		for i := range min(len(ptrs), 3) {
			ptrs[i] = x.way()
		}
		l = append(l, lay(x.t, x.h, head, ptrs, make([]uint64, head.Nons)))
	}
	return l
}

// roots tells what there is, in some order, and some of it not.
func (x *leads) roots(l []int) []int {
	l = append(l, x.way(), x.way(), x.ring[0])
	x.Shuffle(len(l), func(i, j int) { l[i], l[j] = l[j], l[i] })
	return l[:len(l)-x.IntN(len(l)/2)]
}

func TestRingsThatAllLeadTo(t *testing.T) {
	rnd := rand.New(rand.NewPCG(5, 20))
	every(func(gens, steps, hops int) {
		for many := 1; many <= 4; many++ {
			h := made(t, gens, steps, 400, hops)
			x := &leads{rnd, t, h, layRing(t, h, many)}
			what := fmt.Sprintf("a ring of %d, %d generations, %d steps, %d hops", many, gens, steps, hops)
			roots := all(t, what, h, x.roots(x.holders())...)
			all(t, what+", again", h, roots...)
		}
	})
}

// Rings of which some were moved by collections of younger generations ahead, and whose pointers were then put elsewhere: old and young KInds go round together.
func TestRingsThatWereMoved(t *testing.T) {
	rnd := rand.New(rand.NewPCG(6, 20))
	every(func(gens, steps, hops int) {
		for many := 1; many <= 4; many++ {
			h := made(t, gens, steps, 600, hops)
			what := fmt.Sprintf("a ring of %d that was moved, %d generations, %d steps, %d hops", many, gens, steps, hops)
			// Till the ring is closed its KInds point to nothing, and so stay.
			ring := []int{}
			for len(ring) < many {
				ring = append(ring, layInd(t, h, 0))
				if rnd.IntN(3) > 0 {
					ring = must(t, what, h, rnd.IntN(gens), ring...)
				}
			}
			for i, at := range ring {
				set(t, h, at, 0, ring[(i+1)%many])
			}
			x := &leads{rnd, t, h, ring}
			roots := append(x.holders(), ring...)
			for range rnd.IntN(4) {
				roots = must(t, what, h, rnd.IntN(gens), roots...)
				x.ring = roots[len(roots)-many:]
				roots = append(x.holders()[:4], roots...)
			}
			roots = all(t, what, h, x.roots(roots)...)
			all(t, what+", again", h, roots...)
		}
	})
}

// An old KInd that nobody reaches, and young ones that lead to it, go when all is collected.
func TestRingsThatNobodyReaches(t *testing.T) {
	for gens := 2; gens <= api.MaxGens; gens++ {
		h := made(t, gens, 1, 60, 2)
		old := aged(t, h, 1, layInd(t, h, 0))[0]
		young := layInd(t, h, old)
		set(t, h, old, 0, young)
		keep := layRef(t, h, fields(t, h, 2, young))
		keep = must(t, "a ring of an old and a young one", h, 0, keep)[0]
		keep = all(t, "all", h, keep)[0]
		wantKind(t, "what is kept", h, ptr(t, h, keep, 0), api.KInd)
		all(t, "nobody", h)
		if n := len(shotOf(h).all); n > 0 {
			t.Errorf("%d closures are left", n)
		}
	}
}
