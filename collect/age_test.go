package collect_test

import (
	"fmt"
	"slices"
	"testing"

	"midden/api"
)

// P20.3

func wantPlace(t *testing.T, what string, got, want place) {
	t.Helper()
	if got != want {
		t.Errorf("%s: it is in %v; want %v", what, got, want)
	}
}

// With nothing but a root that points to it, a closure goes from step to step.
func TestStepByStep(t *testing.T) {
	for gens := 1; gens <= api.MaxGens; gens++ {
		for steps := 1; steps <= api.MaxSteps; steps++ {
			h := made(t, gens, steps, 700, 0)
			roots := fill(t, h, func(int) int { return 0 })
			in := place{}
			for range gens*steps + 2 {
				was := shotOf(h)
				roots = must(t, fmt.Sprintf("%d generations, %d steps", gens, steps), h, in.gen, roots...)
				in = was.next(in, 0)
				for i, at := range roots {
					wantPlace(t, fmt.Sprint("closure ", i), where(t, h, at), in)
				}
			}
			wantPlace(t, "in the end", in, place{gens - 1, 0})
		}
	}
}

// What is not collected stays where it is, whatever points to it.
func TestOldOnesStay(t *testing.T) {
	h := made(t, 3, 2, 30, 1)
	l := aged(t, h, 1, layCon(t, h, 0, layRef(t, h, layNum(t, h, 1))))
	at, in := l[0], where(t, h, l[0])
	r := ptr(t, h, at, 0)
	for range 5 {
		l = must(t, "a younger generation", h, 0, at, r, layCon(t, h, 0, r, at))
		if l[0] != at || l[1] != r || ptr(t, h, at, 0) != r {
			t.Fatalf("the old ones %d, %d are %v", at, r, l)
		}
		wantPlace(t, "the old one", where(t, h, at), in)
	}
}

// An old one, or one that moved to an older generation, takes what it points to along; a variable or an array does not.
func TestTakenAlong(t *testing.T) {
	for _, x := range heads() {
		if x.Ptrs == 0 {
			continue
		}
		holds := x.Kind == api.KRef || x.Kind == api.KArr
		for gen := 1; gen < api.MaxGens; gen++ {
			what := fmt.Sprintf("%v of generation %d", x, gen)
			h := made(t, api.MaxGens, 3, 600, 0)
			old := lay(t, h, x, make([]int, x.Ptrs), make([]uint64, x.Nons))
			old = aged(t, h, gen, old)[0]
			n := layNum(t, h, 5)
			set(t, h, old, x.Ptrs-1, n)
			for collected := range gen {
				must(t, what, h, collected)
				want := place{gen, 0}
				if holds {
					want = shotOf(h).next(place{}, 0)
				}
				p := ptr(t, h, old, x.Ptrs-1)
				wantPlace(t, what+": what it points to", where(t, h, p), want)
				set(t, h, old, x.Ptrs-1, layNum(t, h, 5))
			}
		}
	}
}

func TestTakenAlongByWhatMoved(t *testing.T) {
	for _, x := range heads() {
		if x.Ptrs == 0 || x.Kind == api.KInd {
			continue
		}
		holds := x.Kind == api.KRef || x.Kind == api.KArr
		for gen := range api.MaxGens - 1 {
			what := fmt.Sprintf("%v that leaves generation %d", x, gen)
			h := made(t, api.MaxGens, 1, 600, 0)
			at := aged(t, h, gen, lay(t, h, x, make([]int, x.Ptrs), make([]uint64, x.Nons)))[0]
			inner := layCon(t, h, 1, layNum(t, h, 5))
			outer := layCon(t, h, 2, inner)
			for i := range x.Ptrs {
				set(t, h, at, i, outer)
			}
			l := must(t, what, h, gen, at)
			wantPlace(t, what, where(t, h, l[0]), place{gen + 1, 0})
			want := place{gen + 1, 0}
			if holds {
				want = place{1, 0}
			}
			p := ptr(t, h, l[0], 0)
			wantPlace(t, what+": what it points to", where(t, h, p), want)
			p = ptr(t, h, p, 0)
			wantPlace(t, what+": what that points to", where(t, h, p), want)
			wantPlace(t, what+": the end", where(t, h, ptr(t, h, p, 0)), want)
		}
	}
}

// One that goes on to the next step of its generation is yet older than what is of generation 0.
func TestTakenAlongWithinAGeneration(t *testing.T) {
	h := made(t, 3, 3, 60, 0)
	at := aged(t, h, 1, layCon(t, h, 0, 0))[0]
	set(t, h, at, 0, layCon(t, h, 1, layNum(t, h, 5)))
	l := must(t, "a collection of both", h, 1, at)
	wantPlace(t, "it", where(t, h, l[0]), place{1, 1})
	p := ptr(t, h, l[0], 0)
	wantPlace(t, "what it points to", where(t, h, p), place{1, 0})
	wantPlace(t, "the end", where(t, h, ptr(t, h, p, 0)), place{1, 0})
}

// A pointer that is passed over takes along what it comes to.
func TestTakenAlongOverAWay(t *testing.T) {
	h := made(t, 3, 3, 60, 2)
	old := aged(t, h, 2, layCon(t, h, 0, 0, 0))[0]
	n, m := layNum(t, h, 5), layNum(t, h, 6)
	set(t, h, old, 0, layInd(t, h, n))
	set(t, h, old, 1, laySel(t, h, 1, layCon(t, h, 1, m), 0))
	must(t, "an old one", h, 0)
	for i := range 2 {
		p := ptr(t, h, old, i)
		wantNum(t, "the field", h, p, uint64(5+i))
		wantPlace(t, "the field", where(t, h, p), place{2, 0})
	}
}

// The oldest one that points to it takes a closure along, and a root keeps it not back.
func TestTakenAlongByTheOldest(t *testing.T) {
	h := made(t, 4, 3, 60, 0)
	var olds []int
	for gen := 3; gen > 0; gen-- {
		olds = append(olds, aged(t, h, gen, layCon(t, h, 0, 0))[0])
	}
	slices.Reverse(olds)
	for i, at := range olds {
		wantPlace(t, "an old one", where(t, h, at), place{i + 1, 0})
	}
	n := layNum(t, h, 5)
	for _, at := range olds {
		set(t, h, at, 0, n)
	}
	l := must(t, "three that point to it", h, 0, n, olds[0])
	wantPlace(t, "what all point to", where(t, h, l[0]), place{3, 0})
	for gen := range 4 {
		if len(h.Old(gen)) > 0 {
			t.Errorf("the list of generation %d is %v", gen, h.Old(gen))
		}
	}
}

// What a variable moved ahead stays there: the old one that comes to it later stands in its list.
func TestMovedAhead(t *testing.T) {
	h := made(t, 3, 2, 60, 0)
	r := aged(t, h, 2, layRef(t, h, 0))[0]
	low := aged(t, h, 1, layCon(t, h, 0, 0))[0]
	n := layNum(t, h, 5)
	set(t, h, r, 0, n)
	set(t, h, low, 0, n)
	must(t, "a variable and an old one", h, 0, low, r)
	in := where(t, h, ptr(t, h, r, 0))
	if in != (place{0, 1}) && in != (place{1, 0}) {
		t.Errorf("it is in %v", in)
	}
	if stands := slices.Contains(h.Old(1), low); stands != (in.gen == 0) {
		t.Errorf("it is in %v, and of the old one's list: %t", in, stands)
	}
}

// P20.4

func TestListsAheadAndBehind(t *testing.T) {
	h := made(t, 3, 1, 60, 0)
	r, c := layRef(t, h, 0), layCon(t, h, 0, 0, 0)
	l := aged(t, h, 2, r, c)
	r, c = l[0], l[1]
	want := func(what string, gen int, l ...int) {
		t.Helper()
		if !slices.Equal(h.Old(gen), l) {
			t.Errorf("%s: the list of generation %d is %v; want %v", what, gen, h.Old(gen), l)
		}
	}
	want("nothing young", 2)
	n := layNum(t, h, 1)
	set(t, h, r, 0, n)
	set(t, h, c, 1, n)
	set(t, h, c, 1, 0)
	want("with barriers", 2, r, c) // c points to nothing that is young any more
	must(t, "a variable holds one", h, 0, r, c)
	want("behind it", 2, r)
	wantPlace(t, "what it holds", where(t, h, ptr(t, h, r, 0)), place{1, 0})
	must(t, "a younger generation", h, 0, r, c)
	want("what it holds is yet younger", 2, r)
	must(t, "once more", h, 1, r, c)
	want("both are as old", 2)
	set(t, h, c, 0, layNum(t, h, 2))
	want("a young field", 2, c)
	must(t, "without roots", h, 0)
	want("it was taken along", 2)
	wantNum(t, "the field", h, ptr(t, h, c, 0), 2)
}

func TestListsOfWhatMoved(t *testing.T) {
	h := made(t, 3, 2, 60, 0)
	r := layRef(t, h, 0)
	r = must(t, "a step on", h, 0, r)[0]
	set(t, h, r, 0, layNum(t, h, 1))
	r = must(t, "to generation 1", h, 0, r)[0]
	if l := h.Old(1); !slices.Equal(l, []int{r}) {
		t.Errorf("the list of generation 1 is %v; want %d", l, r)
	}
	r = must(t, "what it holds, too", h, 0, r)[0]
	if l := h.Old(1); len(l) > 0 {
		t.Errorf("the list of generation 1 is %v", l)
	}
}

// An old one that nobody reaches any more keeps what it points to, till it is gone itself.
func TestUnreachedOldOnes(t *testing.T) {
	h := made(t, 2, 1, 60, 8)
	r := aged(t, h, 1, layRef(t, h, 0))[0]
	set(t, h, r, 0, layInd(t, h, layCon(t, h, 0, layNum(t, h, 3))))
	must(t, "nobody reaches it", h, 0)
	wantNum(t, "what it keeps", h, ptr(t, h, ptr(t, h, r, 0), 0), 3)
	must(t, "all", h, 1)
	if u := h.Used(0) + h.Used(1); u != 0 {
		t.Errorf("%d words are left", u)
	}
}

// P20.5

func TestNothingMore(t *testing.T) {
	for gens := 1; gens <= api.MaxGens; gens++ {
		for steps := 1; steps <= api.MaxSteps; steps++ {
			h := made(t, gens, steps, 200, 8)
			var keep []int
			for i := range 12 {
				n := layNum(t, h, uint64(i))
				c := layCon(t, h, 1, n, layInd(t, h, n))
				s := laySel(t, h, 1, layInd(t, h, c), uint64(i%3))
				layArr(t, h, n, c, s)
				keep = append(keep, layInd(t, h, s), layRef(t, h, c))
				keep = must(t, "young ones", h, i%gens, keep...)
			}
			for len(keep) > 0 {
				keep = must(t, "fewer", h, gens-1, keep[1:]...)
			}
			if h.Left() != 199 {
				t.Errorf("%d blocks are free behind all", h.Left())
			}
		}
	}
}
