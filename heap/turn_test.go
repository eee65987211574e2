package heap_test

import (
	"fmt"
	"slices"
	"testing"

	"midden/api"
)

// P18.4, P18.6, P18.7: what is done to closures between collections.

// ages makes a heap of four generations, with a number and a variable of each.
func ages(t *testing.T) (p *pair, nums, refs []int) {
	t.Helper()
	p = plain(t, 4, 1, 40)
	for gen := 3; gen >= 0; gen-- {
		l := p.layAt(t, gen)
		nums, refs = slices.Insert(nums, 0, l[0]), slices.Insert(refs, 0, l[1])
	}
	for gen := range 4 {
		if g, _, e := p.h.Where(refs[gen]); g != gen || e != api.OK {
			t.Fatalf("the variable of generation %d is in %d, error %d", gen, g, int(e))
		}
	}
	return p, nums, refs
}

// layAt lays a number and a variable, and lets them be of a generation.
func (p *pair) layAt(t *testing.T, gen int) []int {
	t.Helper()
	l := []int{p.num(t, uint64(gen)), p.ref(t, 0)}
	if gen == 0 {
		return l
	}
	return p.raise(t, gen, l...)
}

func checkOld(t *testing.T, p *pair, gen int, want ...int) {
	t.Helper()
	if l := p.h.Old(gen); !slices.Equal(l, want) {
		t.Errorf("Old(%d): %v; want %v", gen, l, want)
	}
}

// Set of a younger one, one of the same generation, and an older one, from each generation to each: just where it is younger the closure is listed.
func TestSetAcrossGenerations(t *testing.T) {
	for from := range 4 {
		for to := range 4 {
			p, nums, refs := ages(t)
			expect(t, "Set", p.set(t, refs[from], 0, nums[to]), api.OK)
			for gen := range 4 {
				if gen == from && to < from {
					checkOld(t, p, gen, refs[from])
				} else {
					checkOld(t, p, gen)
				}
			}
			p.check(t, fmt.Sprintf("Set of a closure of %d in one of %d", to, from))
		}
	}
}

func TestSetOfNoneAndOfItself(t *testing.T) {
	p, nums, refs := ages(t)
	for gen := range 4 {
		expect(t, "Set of 0", p.set(t, refs[gen], 0, 0), api.OK)
		expect(t, "Set of itself", p.set(t, refs[gen], 0, refs[gen]), api.OK)
		checkOld(t, p, gen)
	}
	p.checkAll(t, "none is listed")
	// What is listed stays so, whatever it points to then; and stands there but once.
	expect(t, "Set", p.set(t, refs[2], 0, nums[1]), api.OK)
	for _, to := range []int{nums[0], 0, nums[3], refs[2], nums[1]} {
		expect(t, "Set", p.set(t, refs[2], 0, to), api.OK)
		checkOld(t, p, 2, refs[2])
	}
	p.checkAll(t, "one is listed")
}

func TestSetOfEachPointer(t *testing.T) {
	for _, x := range heads() {
		p := plain(t, 2, 1, 4)
		num := p.num(t, 1)
		one, other := p.filled(t, x, 0), p.filled(t, x, num)
		for i := range x.Ptrs {
			expect(t, "Set", p.set(t, one, i, num), api.OK)
			p.check(t, fmt.Sprintf("Set %d of %+v", i, x))
			expect(t, "Set", p.set(t, other, i, one), api.OK)
		}
		for _, i := range append(farNumbers(), x.Ptrs, x.Ptrs+1, x.Ptrs+x.Nons) {
			if i < 0 || i >= x.Ptrs {
				expect(t, fmt.Sprintf("Set %d of %+v", i, x), p.set(t, one, i, num), api.ErrIndex)
			}
		}
		p.checkAll(t, fmt.Sprintf("Set of %+v", x))
	}
}

func TestSetTellsTheFirstError(t *testing.T) {
	p := plain(t, 2, 1, 3)
	num, ref := p.num(t, 1), p.ref(t, 0)
	for _, wrong := range wrongPointers(p) {
		expect(t, "Set at what is none", p.set(t, wrong, 0, num), api.ErrRange)
		expect(t, "Set of what is none", p.set(t, ref, 0, wrong), api.ErrRange)
		expect(t, "Set at what is none of what is none", p.set(t, wrong, 9, wrong), api.ErrRange)
		expect(t, "Set of what is none where there is no pointer", p.set(t, ref, 1, wrong), api.ErrIndex)
		expect(t, "Set of what is none below all pointers", p.set(t, num, -1, wrong), api.ErrIndex)
	}
	expect(t, "Set at 0", p.set(t, 0, 0, num), api.ErrRange)
	expect(t, "Set at 0, where there is no pointer", p.set(t, 0, 1, num), api.ErrRange)
	p.checkAll(t, "behind all that was refused")
}

// isPassed tells the kinds that may be passed.
func isPassed(kind int) bool { return slices.Contains([]int{5, 6, 7, 9}, kind) }

// turns tells what is done to a closure that may be passed, and the header and the first word that come of it.
var turns = []struct {
	name  string
	do    func(t *testing.T, p *pair, at, to int) api.Errno
	kind  int
	first func(to int) uint64
}{
	{"Pass", func(t *testing.T, p *pair, at, to int) api.Errno { return p.pass(t, at, to) }, 8, func(to int) uint64 { return uint64(to) }},
	{"Hole", func(t *testing.T, p *pair, at, to int) api.Errno { return p.hole(t, at) }, 9, func(int) uint64 { return 0 }},
	{"Fail", func(t *testing.T, p *pair, at, to int) api.Errno { return p.fail(t, at, 42) }, 12, func(int) uint64 { return 42 }},
}

// parts tells all words of a closure behind its header.
func parts(t *testing.T, p *pair, at int) []uint64 {
	t.Helper()
	x, _ := p.h.Head(at)
	var l []uint64
	for i := range x.Ptrs {
		ptr, _ := p.h.Ptr(at, i)
		l = append(l, uint64(ptr))
	}
	for i := range x.Nons {
		w, _ := p.h.Non(at, i)
		l = append(l, w)
	}
	return l
}

// Each kind turned to each: all words of what it becomes, and all others, which stay as they are.
func TestTurnsOfEachKind(t *testing.T) {
	for _, turn := range turns {
		for _, x := range heads() {
			p := plain(t, 2, 1, 5)
			num := p.num(t, 1)
			before, at, behind := p.filled(t, x, num), p.filled(t, x, num), p.filled(t, x, num)
			e := turn.do(t, p, at, num)
			what := fmt.Sprintf("%s of %+v", turn.name, x)
			if !isPassed(x.Kind) {
				expect(t, what, e, api.ErrKind)
				p.checkAll(t, what)
				continue
			}
			expect(t, what, e, api.OK)
			want := make([]uint64, x.Ptrs+x.Nons)
			want[0] = turn.first(num)
			if l := parts(t, p, at); !slices.Equal(l, want) {
				t.Errorf("%s: its words are %v; want %v", what, l, want)
			}
			if y, _ := p.h.Head(at); y.Kind != turn.kind || y.Info != 0 {
				t.Errorf("%s: it became %+v", what, y)
			}
			p.checkAll(t, what)
			expect(t, what+", behind it", turn.do(t, p, behind, before), api.OK)
			expect(t, what+", ahead of it", turn.do(t, p, before, at), api.OK)
			p.checkAll(t, what)
		}
	}
}

// What was turned is turned no more, but for a hole; and a hole that is one again has no word that it had.
func TestTurnsOfWhatWasTurned(t *testing.T) {
	for _, first := range turns {
		for _, second := range turns {
			p := plain(t, 2, 1, 4)
			num := p.num(t, 1)
			at := p.thunk(t, num, num, num)
			expect(t, first.name, first.do(t, p, at, num), api.OK)
			want := api.ErrKind
			if first.kind == 9 {
				want = api.OK
			}
			expect(t, first.name+", then "+second.name, second.do(t, p, at, num), want)
			p.checkAll(t, first.name+", then "+second.name)
		}
	}
	p := plain(t, 1, 1, 3)
	at := p.must(t, api.Head{Kind: api.KHole, Nons: 3}, nil, []uint64{7, 8, 9})
	expect(t, "Hole", p.hole(t, at), api.OK)
	if l := parts(t, p, at); !slices.Equal(l, []uint64{0, 0, 0}) {
		t.Errorf("a hole that is one again has the words %v", l)
	}
}

func TestTurnsAtWhatIsNoClosure(t *testing.T) {
	p := plain(t, 2, 1, 3)
	num := p.num(t, 1)
	thunk := p.thunk(t, num, 0)
	for _, wrong := range append(wrongPointers(p), 0) {
		for _, turn := range turns {
			expect(t, turn.name, turn.do(t, p, wrong, num), api.ErrRange)
			expect(t, turn.name, turn.do(t, p, wrong, wrong), api.ErrRange)
		}
		expect(t, "Pass to what is none", p.pass(t, thunk, wrong), api.ErrRange)
		// ErrRange stands ahead of ErrKind, ErrKind ahead of ErrLoop and ErrArg.
		expect(t, "Pass of a number to what is none", p.pass(t, num, wrong), api.ErrRange)
		expect(t, "Fail at what is none with no error", p.fail(t, wrong, 0), api.ErrRange)
	}
	expect(t, "Pass of a number to itself", p.pass(t, num, num), api.ErrKind)
	expect(t, "Fail of a number with no error", p.fail(t, num, 0), api.ErrKind)
	p.checkAll(t, "behind all that was refused")
}

func TestFailOfEachError(t *testing.T) {
	p := plain(t, 2, 1, 20)
	for _, n := range []api.Errno{1, 2, 40, 47, 255, 256, 4096, 9998, 9999} {
		at := p.thunk(t, 0, 0)
		expect(t, fmt.Sprintf("Fail %d", int(n)), p.fail(t, at, n), api.OK)
		if l := parts(t, p, at); !slices.Equal(l, []uint64{uint64(n), 0}) {
			t.Errorf("Fail %d: its words are %v", int(n), l)
		}
	}
	at := p.thunk(t, 0)
	for _, n := range append(farNumbers(), 0, 10000, 10001) {
		expect(t, fmt.Sprintf("Fail %d", n), p.fail(t, at, api.Errno(n)), api.ErrArg)
	}
	p.check(t, "behind Fail")
}

// chain lays KInds, each of which points to the one ahead of it, the first one to a closure.
func (p *pair) chain(t *testing.T, to, many int) []int {
	t.Helper()
	l := []int{to}
	for i := range many {
		l = append(l, p.must(t, api.Head{Kind: api.KInd, Ptrs: 1}, []int{l[i]}, nil))
	}
	return l[1:]
}

func TestPassToItself(t *testing.T) {
	for _, x := range heads() {
		if isPassed(x.Kind) {
			p := plain(t, 2, 1, 4)
			at := p.filled(t, x, 0)
			expect(t, fmt.Sprintf("Pass of %+v to itself", x), p.pass(t, at, at), api.ErrLoop)
			p.checkAll(t, "behind Pass to itself")
		}
	}
}

// Pass to a closure from which KInds lead back, over each number of them; and to one that points back, but is no KInd.
func TestPassToWhatLeadsBack(t *testing.T) {
	for many := 1; many <= 70; many++ {
		p := plain(t, 2, 1, 9)
		at := p.thunk(t, 0)
		l := p.chain(t, at, many)
		for _, ind := range l {
			expect(t, "Pass back", p.pass(t, at, ind), api.ErrLoop)
		}
		expect(t, "Set", p.set(t, l[0], 0, 0), api.OK)
		expect(t, "Pass to KInds that lead nowhere", p.pass(t, at, l[many-1]), api.OK)
		p.checkAll(t, "behind Pass")
	}
	for _, x := range heads() {
		if x.Kind != api.KInd && x.Ptrs > 0 {
			p := plain(t, 2, 1, 4)
			at := p.thunk(t, 0, 0)
			other := p.filled(t, x, at)
			expect(t, fmt.Sprintf("Pass to %+v that points back", x), p.pass(t, at, other), api.OK)
			p.checkAll(t, "behind Pass")
		}
	}
}

// Pass builds the chain itself: the last one can't be passed to the first.
func TestPassAlongAChain(t *testing.T) {
	p := plain(t, 2, 1, 9)
	var l []int
	for range 40 {
		l = append(l, p.thunk(t, 0))
	}
	for i := range 39 {
		expect(t, "Pass", p.pass(t, l[i], l[i+1]), api.OK)
	}
	for _, at := range l {
		expect(t, "Pass back", p.pass(t, l[39], at), api.ErrLoop)
	}
	expect(t, "Pass to another", p.pass(t, l[39], p.num(t, 1)), api.OK)
	p.checkAll(t, "behind Pass")
}

// A ring of KInds that goes round without the closure: of one, of some, and with a way that leads into it.
func TestPassIntoARingOfOthers(t *testing.T) {
	for many := 1; many <= 9; many++ {
		for way := range 4 {
			p := plain(t, 2, 1, 9)
			l := p.chain(t, 0, many)
			expect(t, "Set", p.set(t, l[0], 0, l[many-1]), api.OK)
			for _, ind := range append(l, p.chain(t, l[many/2], way)...) {
				at := p.thunk(t, 0)
				expect(t, "Pass into a ring", p.pass(t, at, ind), api.OK)
			}
			p.checkAll(t, "behind Pass into a ring")
		}
	}
}

// The barrier of Pass: across all generations.
func TestPassAcrossGenerations(t *testing.T) {
	for from := range 4 {
		for to := range 4 {
			p := plain(t, 4, 1, 40)
			var thunks []int
			for gen := 3; gen >= 0; gen-- {
				thunk := p.thunk(t, 0, 0)
				if gen > 0 {
					thunk = p.raise(t, gen, thunk)[0]
				}
				thunks = slices.Insert(thunks, 0, thunk)
			}
			if from == to {
				continue
			}
			expect(t, "Pass", p.pass(t, thunks[from], thunks[to]), api.OK)
			if to < from {
				checkOld(t, p, from, thunks[from])
			} else {
				checkOld(t, p, from)
			}
			p.check(t, fmt.Sprintf("Pass of a closure of %d to one of %d", from, to))
			expect(t, "Hole", p.hole(t, thunks[to]), api.OK)
			expect(t, "Fail", p.fail(t, thunks[to], 9), api.OK)
			p.check(t, "behind Hole and Fail")
		}
	}
}

// What is listed and loses its pointers by Hole and Fail stays listed till a collection.
func TestHoleOfWhatIsListed(t *testing.T) {
	p := plain(t, 2, 1, 20)
	l := p.raise(t, 1, p.thunk(t, 0, 0), p.thunk(t, 0, 0), p.thunk(t, 0))
	num := p.num(t, 1)
	for _, at := range l {
		expect(t, "Set", p.set(t, at, 0, num), api.OK)
	}
	expect(t, "Hole", p.hole(t, l[0]), api.OK)
	expect(t, "Fail", p.fail(t, l[1], 3), api.OK)
	checkOld(t, p, 1, l...)
	p.check(t, "listed without a pointer")
	p.collect(t, 0)
	checkOld(t, p, 1)
	p.check(t, "behind a collection")
}
