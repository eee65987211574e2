package heap_test

import (
	"fmt"
	"slices"
	"testing"

	"midden/api"
)

// P18.5, P18.6: collections.

// checkResting holds the calls of a heap at no collection: those of one tell ErrWork, whatever else is wrong with them.
func checkResting(t *testing.T, p *pair, places ...int) {
	t.Helper()
	for _, at := range append(places, 0, -1) {
		for _, least := range []int{0, p.r.c.Gens} {
			_, e := p.evacuate(t, at, least)
			expect(t, "Evacuate at no collection", e, api.ErrWork)
		}
		for _, i := range []int{0, -1} {
			expect(t, "Store at no collection", p.store(t, at, i, at), api.ErrWork)
		}
		if to, ok := p.h.Moved(at); to != 0 || ok {
			t.Errorf("Moved(%d) at no collection = %d, %t", at, to, ok)
		}
	}
	expect(t, "Finish at no collection", p.finish(t), api.ErrWork)
	if at, ok := p.fresh(t); at != 0 || ok {
		t.Errorf("Fresh at no collection = %d, %t", at, ok)
	}
	p.check(t, "at no collection")
}

// checkWorking holds the calls of a heap at a collection: those that are done between two tell ErrWork, whatever else is wrong with them.
func checkWorking(t *testing.T, p *pair, places ...int) {
	t.Helper()
	for _, x := range append(heads(), api.Head{}) {
		_, e := p.lay(t, x, make([]int, x.Ptrs), make([]uint64, x.Nons))
		expect(t, "Lay in a collection", e, api.ErrWork)
		_, e = p.lay(t, x, []int{-1}, nil)
		expect(t, "Lay in a collection", e, api.ErrWork)
	}
	for _, at := range append(places, 0, -1) {
		for _, i := range []int{0, -1} {
			expect(t, "Set in a collection", p.set(t, at, i, at), api.ErrWork)
		}
		expect(t, "Pass in a collection", p.pass(t, at, at), api.ErrWork)
		expect(t, "Hole in a collection", p.hole(t, at), api.ErrWork)
		expect(t, "Fail in a collection", p.fail(t, at, 0), api.ErrWork)
		expect(t, "Fail in a collection", p.fail(t, at, 9), api.ErrWork)
	}
	for gen := -1; gen <= p.r.c.Gens; gen++ {
		expect(t, "Begin in a collection", p.begin(t, gen), api.ErrWork)
	}
	p.check(t, "in a collection")
}

// Every call ahead of Begin, in the midst and behind Finish.
func TestCallsAroundACollection(t *testing.T) {
	p := plain(t, 2, 2, 20)
	num, thunk, ref := p.num(t, 1), p.thunk(t, 0, 0), p.ref(t, 0)
	checkResting(t, p, num, thunk, ref)
	for range 4 {
		expect(t, "Begin", p.begin(t, 1), api.OK)
		checkWorking(t, p, num, thunk, ref)
		a, b := p.move(t, num, 0), p.move(t, thunk, 0)
		checkWorking(t, p, num, thunk, ref, a, b)
		p.fresh(t)
		c := p.move(t, ref, 0)
		checkWorking(t, p, num, thunk, ref, a, b, c)
		expect(t, "Finish", p.finish(t), api.OK)
		num, thunk, ref = a, b, c
		checkResting(t, p, num, thunk, ref)
		expect(t, "Set", p.set(t, ref, 0, num), api.OK)
		expect(t, "Set", p.set(t, ref, 0, 0), api.OK)
	}
	p.checkAll(t, "behind four collections")
}

func TestBeginOfEachGeneration(t *testing.T) {
	for gens := 1; gens <= 4; gens++ {
		for gen := -1; gen <= gens; gen++ {
			p := plain(t, gens, 2, 60)
			for older := gens - 1; older >= 0; older-- {
				l := p.layAt(t, older)
				p.set(t, l[1], 0, p.num(t, 3))
			}
			p.check(t, "ahead of Begin")
			want := api.OK
			if gen < 0 || gen == gens {
				want = api.ErrArg
			}
			expect(t, fmt.Sprintf("Begin(%d) of %d generations", gen, gens), p.begin(t, gen), want)
			p.checkAll(t, fmt.Sprintf("behind Begin(%d) of %d generations", gen, gens))
			if want == api.OK {
				checkWorking(t, p)
			} else {
				checkResting(t, p)
			}
		}
	}
	p := plain(t, 3, 1, 4)
	p.num(t, 1)
	for _, gen := range append(farNumbers(), 3, 4) {
		expect(t, fmt.Sprintf("Begin(%d)", gen), p.begin(t, gen), api.ErrArg)
	}
	p.checkAll(t, "behind what was refused")
}

// What is set aside may be looked at till it moves, and is no closure's address for all else.
func TestWhatIsSetAside(t *testing.T) {
	for _, x := range heads() {
		p := plain(t, 3, 2, 20)
		num := p.num(t, 1)
		at := p.filled(t, x, num)
		ref := p.raise(t, 2, p.ref(t, 0))[0]
		num, at = p.num(t, 1), p.filled(t, x, 0)
		expect(t, "Begin", p.begin(t, 1), api.OK)
		what := fmt.Sprintf("%+v is set aside", x)
		p.checkAll(t, what)
		if y, e := p.h.Head(at); y != x || e != api.OK {
			t.Errorf("%s: Head %+v, error %d", what, y, int(e))
		}
		_, _, e := p.h.Where(at)
		expect(t, what+": Where", e, api.ErrRange)
		expect(t, what+": Store of it", p.store(t, ref, 0, at), api.ErrRange)
		expect(t, what+": Store at it", p.store(t, at, 0, 0), api.ErrRange)
		to := p.move(t, at, 0)
		what = fmt.Sprintf("%+v has moved", x)
		p.checkAll(t, what)
		_, e = p.h.Head(at)
		expect(t, what+": Head", e, api.ErrRange)
		expect(t, what+": Store of it", p.store(t, ref, 0, at), api.ErrRange)
		expect(t, what+": Store at it", p.store(t, at, 0, 0), api.ErrRange)
		expect(t, what+": Store of where it went", p.store(t, ref, 0, to), api.OK)
		if got, ok := p.h.Moved(at); got != to || !ok {
			t.Errorf("%s: Moved %d, %t; want %d", what, got, ok, to)
		}
		if got, ok := p.h.Moved(to); got != 0 || ok {
			t.Errorf("%s: Moved of where it went: %d, %t", what, got, ok)
		}
		p.checkAll(t, what)
		expect(t, "Finish", p.finish(t), api.OK)
		p.checkAll(t, "behind Finish")
		_, e = p.h.Head(num)
		expect(t, "Head of what was let go", e, api.ErrRange)
	}
}

// Evacuate of each sort of place, with each generation as the least, and beyond.
func TestEvacuateOfEachSort(t *testing.T) {
	for least := -1; least <= 4; least++ {
		p := plain(t, 4, 1, 40)
		old := p.raise(t, 1, p.ref(t, 0))[0]
		num, moved := p.num(t, 1), p.num(t, 2)
		expect(t, "Begin", p.begin(t, 0), api.OK)
		laid := p.move(t, moved, 0)
		isGen := least >= 0 && least < 4
		for _, c := range []struct {
			what     string
			at, want int
			e        api.Errno
		}{
			{"nothing", 0, 0, api.OK},
			{"an old one", old, old, api.OK},
			{"what was laid since", laid, laid, api.OK},
			{"what has moved", moved, laid, api.OK},
			{"a place within a closure", num + 1, 0, api.ErrRange},
			{"a place within an old one", old + 1, 0, api.ErrRange},
			{"a place behind all", 40 * 64, 0, api.ErrRange},
			{"the first word", 1, 0, api.ErrRange},
			{"a place below 0", -1, 0, api.ErrRange},
		} {
			if !isGen && c.at != 0 {
				c.want, c.e = 0, api.ErrArg
			}
			if to, e := p.evacuate(t, c.at, least); to != c.want || e != c.e {
				t.Errorf("Evacuate of %s, at least %d: %d, error %d; want %d, %d", c.what, least, to, int(e), c.want, int(c.e))
			}
		}
		_, e := p.evacuate(t, num, least)
		if isGen {
			expect(t, "Evacuate of what is set aside", e, api.OK)
		} else {
			expect(t, "Evacuate of what is set aside", e, api.ErrArg)
		}
		p.checkAll(t, fmt.Sprintf("behind Evacuate at least %d", least))
		for _, at := range wrongPointers(p) {
			p.evacuate(t, at, least)
		}
		for _, wrong := range append(farNumbers(), 4, 5) {
			if to, e := p.evacuate(t, 0, wrong); to != 0 || e != api.OK {
				t.Errorf("Evacuate(0, %d) = %d, error %d", wrong, to, int(e))
			}
			_, e := p.evacuate(t, num, wrong)
			expect(t, "Evacuate at least what is none", e, api.ErrArg)
			_, e = p.evacuate(t, num+1, wrong)
			expect(t, "Evacuate of what is none at least what is none", e, api.ErrArg)
		}
		p.check(t, "behind what was refused")
	}
}

// goal tells where a closure of a generation and a step goes, in the words of the chapter.
func goal(gens, steps, gen, step int) (int, int) {
	last := gen == gens-1
	switch {
	case !last && step+1 < steps:
		return gen, step + 1
	case !last:
		return gen + 1, 0
	}
	return gen, 0
}

// Where a closure of each generation and step goes, for each number of generations and steps, and each generation that it shall be of at least.
func TestWhereClosuresGo(t *testing.T) {
	for gens := 1; gens <= 4; gens++ {
		for steps := 1; steps <= 3; steps++ {
			for least := range gens {
				checkWay(t, gens, steps, least)
			}
		}
	}
}

// checkWay lets one closure go all its way by collections of all generations; at each place of it another collection would put it into a generation at least.
func checkWay(t *testing.T, gens, steps, least int) {
	t.Helper()
	for stay := range gens*steps + 2 {
		p := plain(t, gens, steps, 30)
		at := p.num(t, 7)
		gen, step := 0, 0
		for range stay {
			at = p.collect(t, gens-1, root{at, 0})[0]
			gen, step = goal(gens, steps, gen, step)
			p.checkWhere(t, at, gen, step)
		}
		at = p.collect(t, gens-1, root{at, least})[0]
		if gen, step = goal(gens, steps, gen, step); least > gen {
			gen, step = least, 0
		}
		p.checkWhere(t, at, gen, step)
		p.check(t, fmt.Sprintf("%d generations, %d steps, at least %d", gens, steps, least))
	}
}

func (p *pair) checkWhere(t *testing.T, at, gen, step int) {
	t.Helper()
	if g, s, e := p.h.Where(at); g != gen || s != step || e != api.OK {
		t.Errorf("of %d generations, %d steps it is in %d, %d, error %d; want %d, %d", p.r.c.Gens, p.r.c.Steps, g, s, int(e), gen, step)
	}
	if l := p.h.Closures(gen, step); !slices.Contains(l, at) {
		t.Errorf("Closures(%d, %d): %v; want %d there", gen, step, l, at)
	}
}

// The closure of a generation that is not collected stays.
func TestOldOnesStay(t *testing.T) {
	for gen := range 3 {
		p, nums, refs := ages(t)
		expect(t, "Begin", p.begin(t, gen), api.OK)
		for age := range 4 {
			to := p.move(t, refs[age], 0)
			if stays := age > gen; stays != (to == refs[age]) {
				t.Errorf("of generation %d at a collection of %d: from %d to %d", age, gen, refs[age], to)
			}
			p.checkWhere(t, to, min(3, max(age, min(age, gen)+1)), 0)
		}
		expect(t, "Finish", p.finish(t), api.OK)
		for age := range 4 {
			_, e := p.h.Head(nums[age])
			if age > gen {
				expect(t, "Head of an old one", e, api.OK)
			} else {
				expect(t, "Head of one that was let go", e, api.ErrRange)
			}
		}
		p.checkAll(t, "behind Finish")
	}
}

// Fresh tells what was laid in the order of laying, each but once, across calls that lay more.
func TestFreshInOrder(t *testing.T) {
	p := plain(t, 4, 3, 40)
	var nums, laid, told []int
	for i := range 20 {
		nums = append(nums, p.num(t, uint64(i)))
	}
	expect(t, "Begin", p.begin(t, 0), api.OK)
	tell := func(many int) {
		for range many {
			if at, ok := p.fresh(t); ok {
				told = append(told, at)
			}
		}
	}
	tell(2)
	for i, at := range []int{5, 3, 19, 0, 3, 7, 5, 11, 2, 1} {
		to := p.move(t, nums[at], i%4)
		if !slices.Contains(laid, to) {
			laid = append(laid, to)
		}
		tell([]int{0, 0, 1, 3, 0, 2, 1, 0, 0, 1}[i])
	}
	tell(3)
	if at, ok := p.fresh(t); at != 0 || ok {
		t.Errorf("behind all Fresh tells %d, %t", at, ok)
	}
	laid = append(laid, p.move(t, nums[12], 2))
	tell(2)
	if !slices.Equal(told, laid) {
		t.Errorf("Fresh told %v; want %v", told, laid)
	}
	p.checkAll(t, "behind Fresh")
	// What one collection did not tell, the next one tells neither.
	p.move(t, nums[13], 0)
	expect(t, "Finish", p.finish(t), api.OK)
	if at, ok := p.fresh(t); at != 0 || ok {
		t.Errorf("behind Finish Fresh tells %d, %t", at, ok)
	}
	p.num(t, 99)
	expect(t, "Begin", p.begin(t, 0), api.OK)
	if at, ok := p.fresh(t); at != 0 || ok {
		t.Errorf("in the next collection Fresh tells %d, %t", at, ok)
	}
}

// Store puts pointers into old ones and into what was laid, and no list hears of it till Finish.
func TestStoreAcrossGenerations(t *testing.T) {
	for from := range 4 {
		for to := range 4 {
			p, nums, refs := ages(t)
			expect(t, "Begin", p.begin(t, 0), api.OK)
			at, num := p.move(t, refs[from], from), p.move(t, nums[to], to)
			expect(t, "Store", p.store(t, at, 0, num), api.OK)
			for gen := range 4 {
				checkOld(t, p, gen)
			}
			p.check(t, "behind Store")
			expect(t, "Finish", p.finish(t), api.OK)
			if g, _, _ := p.h.Where(at); to < g && g > 1 {
				checkOld(t, p, g, at)
			}
			p.checkAll(t, fmt.Sprintf("a closure of %d stored in one of %d", to, from))
		}
	}
}

func TestStoreTellsTheFirstError(t *testing.T) {
	p := plain(t, 2, 1, 6)
	num, ref := p.num(t, 1), p.ref(t, 0)
	expect(t, "Begin", p.begin(t, 1), api.OK)
	a, b := p.move(t, num, 0), p.move(t, ref, 0)
	for _, wrong := range wrongPointers(p) {
		expect(t, "Store at what is none", p.store(t, wrong, 0, a), api.ErrRange)
		expect(t, "Store of what is none", p.store(t, b, 0, wrong), api.ErrRange)
		expect(t, "Store at what is none of what is none", p.store(t, wrong, 9, wrong), api.ErrRange)
		expect(t, "Store of what is none where there is no pointer", p.store(t, b, 1, wrong), api.ErrIndex)
	}
	for _, i := range append(farNumbers(), 1, 2) {
		expect(t, fmt.Sprintf("Store %d", i), p.store(t, b, i, a), api.ErrIndex)
		expect(t, fmt.Sprintf("Store %d of a number", i), p.store(t, a, i, a), api.ErrIndex)
	}
	expect(t, "Store at 0", p.store(t, 0, 0, a), api.ErrRange)
	p.checkAll(t, "behind what was refused")
	for _, to := range []int{a, b, 0} {
		expect(t, "Store", p.store(t, b, 0, to), api.OK)
		p.checkAll(t, "behind Store")
	}
	expect(t, "Finish", p.finish(t), api.OK)
}

// A pointer that is left to what was set aside, moved or not, in what was laid: the heap is dead.
func TestFinishWithAPointerLeft(t *testing.T) {
	for _, moves := range []bool{false, true} {
		for i := range 3 {
			p := plain(t, 2, 1, 9)
			num := p.num(t, 1)
			ptrs := make([]int, 3)
			ptrs[i] = num
			con := p.must(t, api.Head{Kind: api.KCon, Ptrs: 3}, ptrs, nil)
			expect(t, "Begin", p.begin(t, 0), api.OK)
			p.move(t, con, 0)
			if moves {
				p.move(t, num, 0)
			}
			expect(t, "Finish", p.finish(t), api.ErrRange)
			checkDead(t, p)
		}
	}
}

// The same in an old one that stands in a list; in an old one that stands in none there is no such pointer.
func TestFinishWithAPointerLeftInTheLists(t *testing.T) {
	for gen := 1; gen < 4; gen++ {
		for _, moves := range []bool{false, true} {
			p, nums, refs := ages(t)
			expect(t, "Set", p.set(t, refs[gen], 0, nums[0]), api.OK)
			expect(t, "Begin", p.begin(t, 0), api.OK)
			if moves {
				p.move(t, nums[0], 0)
			}
			expect(t, "Finish", p.finish(t), api.ErrRange)
			checkDead(t, p)
		}
	}
	p, nums, refs := ages(t)
	expect(t, "Set", p.set(t, refs[1], 0, nums[0]), api.OK)
	expect(t, "Set", p.set(t, refs[1], 0, 0), api.OK)
	expect(t, "Begin", p.begin(t, 0), api.OK)
	expect(t, "Finish", p.finish(t), api.OK)
	p.checkAll(t, "a listed one whose pointer is none")
	// What is listed and is set aside itself is looked at no more.
	p, nums, refs = ages(t)
	expect(t, "Set", p.set(t, refs[1], 0, nums[0]), api.OK)
	expect(t, "Begin", p.begin(t, 1), api.OK)
	expect(t, "Finish", p.finish(t), api.OK)
	p.checkAll(t, "a listed one that was let go")
}

// Behind Finish just those stand in the lists that point to a younger one, whether they stood there or not.
func TestListsBehindFinish(t *testing.T) {
	for _, c := range []struct {
		name   string
		put    int // into the variable of generation 3 the number of that generation; -1: none
		least  int // the least generation that the number goes to
		listed bool
	}{
		{"it stays younger", 0, 0, true},
		{"it stays younger by one", 0, 2, true},
		{"it comes to be of the same generation", 0, 3, false},
		{"an older one was younger ahead", 1, 0, true},
		{"it was let go", -1, 0, false},
	} {
		p, nums, refs := ages(t)
		expect(t, "Set", p.set(t, refs[3], 0, nums[0]), api.OK)
		if c.put >= 0 {
			expect(t, "Set", p.set(t, refs[3], 0, nums[c.put]), api.OK)
		} else {
			expect(t, "Set", p.set(t, refs[3], 0, 0), api.OK)
		}
		expect(t, "Begin", p.begin(t, 0), api.OK)
		ptr, _ := p.h.Ptr(refs[3], 0)
		expect(t, "Store", p.store(t, refs[3], 0, p.move(t, ptr, c.least)), api.OK)
		checkOld(t, p, 3, refs[3])
		expect(t, "Finish", p.finish(t), api.OK)
		if c.listed {
			checkOld(t, p, 3, refs[3])
		} else {
			checkOld(t, p, 3)
		}
		p.checkAll(t, c.name)
	}
}

// What is moved beyond an older one that it points to is listed, though no pointer was put into it: its other pointers may be of any generation.
func TestListsOfWhatWasLaid(t *testing.T) {
	for least := range 4 {
		for to := range 4 {
			p, nums, _ := ages(t)
			con := p.must(t, api.Head{Kind: api.KCon, Ptrs: 3}, []int{0, nums[to], 0}, nil)
			expect(t, "Begin", p.begin(t, 0), api.OK)
			at := p.move(t, con, least)
			ptr, _ := p.h.Ptr(at, 1)
			expect(t, "Store", p.store(t, at, 1, p.move(t, ptr, 0)), api.OK)
			expect(t, "Finish", p.finish(t), api.OK)
			if max(1, to) < max(1, least) {
				checkOld(t, p, least, at)
			} else {
				checkOld(t, p, max(1, least))
			}
			p.checkAll(t, fmt.Sprintf("one of %d that points to one of %d", least, to))
		}
	}
}

// P18.6: an old one that stood in no list, and into which Store put a younger one, stands in its list behind Finish; and if another Store took it away again, it need not.
func TestListsOfWhatWasStored(t *testing.T) {
	p, nums, refs := ages(t)
	expect(t, "Begin", p.begin(t, 0), api.OK)
	num := p.move(t, nums[0], 0)
	for gen := 1; gen < 4; gen++ {
		expect(t, "Store", p.store(t, refs[gen], 0, num), api.OK)
	}
	expect(t, "Store", p.store(t, refs[2], 0, nums[3]), api.OK)
	for gen := range 4 {
		checkOld(t, p, gen)
	}
	expect(t, "Finish", p.finish(t), api.OK)
	checkOld(t, p, 1)
	checkOld(t, p, 2)
	checkOld(t, p, 3, refs[3])
	p.checkAll(t, "behind Finish")
	// The next collection finds it, and lets it go.
	p.collect(t, 1)
	checkOld(t, p, 3, refs[3])
	p.collect(t, 2)
	checkOld(t, p, 3)
	p.checkAll(t, "behind two collections more")
}

// The blocks of what was set aside go back at Finish, not ahead; and what was kept has its own.
func TestBlocksThatGoBack(t *testing.T) {
	p := plain(t, 2, 2, 30)
	great := p.filled(t, api.Head{Kind: api.KHole, Nons: 199}, 0)
	for range 100 {
		p.num(t, 1)
	}
	if p.h.Left() != 29-4-4 {
		t.Errorf("%d blocks are left; want 21", p.h.Left())
	}
	expect(t, "Begin", p.begin(t, 0), api.OK)
	if p.h.Left() != 21 || p.h.Used(0) != 0 || p.h.Blocks(0) != 0 {
		t.Errorf("behind Begin: %d left, %d words, %d blocks", p.h.Left(), p.h.Used(0), p.h.Blocks(0))
	}
	great = p.move(t, great, 0)
	if p.h.Left() != 17 || p.h.Used(0) != 200 || p.h.Blocks(0) != 4 {
		t.Errorf("behind Evacuate: %d left, %d words, %d blocks", p.h.Left(), p.h.Used(0), p.h.Blocks(0))
	}
	expect(t, "Finish", p.finish(t), api.OK)
	if p.h.Left() != 25 || p.h.Used(0) != 200 || p.h.Blocks(0) != 4 {
		t.Errorf("behind Finish: %d left, %d words, %d blocks", p.h.Left(), p.h.Used(0), p.h.Blocks(0))
	}
	p.checkAll(t, "behind Finish")
	p.collect(t, 1)
	if p.h.Left() != 29 {
		t.Errorf("behind a collection that keeps nothing: %d left", p.h.Left())
	}
	p.checkAll(t, "with nothing")
}

// Addresses that were let go are used again, for closures of other sizes: what stood there is forgotten.
func TestAddressesThatAreUsedAgain(t *testing.T) {
	p := plain(t, 2, 1, 5)
	for round := range 30 {
		at := p.num(t, uint64(round))
		x := heads()[round%len(heads())]
		other := p.filled(t, x, at)
		p.ref(t, other)
		p.check(t, "in a round")
		keep := p.collect(t, round%2, root{other, round % 2})
		p.check(t, "behind a collection")
		if round%3 == 0 {
			p.filled(t, x, keep[0])
		}
		p.collect(t, 1)
		p.checkAll(t, "with nothing")
		if p.h.Left() != 4 {
			t.Errorf("%d blocks are left; want 4", p.h.Left())
		}
	}
}

// A collection in which nothing is done: all the young ones are gone.
func TestCollectionOfNothing(t *testing.T) {
	for gen := range 4 {
		p, _, refs := ages(t)
		expect(t, "Begin", p.begin(t, gen), api.OK)
		expect(t, "Finish", p.finish(t), api.OK)
		for age := range 4 {
			_, e := p.h.Head(refs[age])
			if age <= gen {
				expect(t, "Head", e, api.ErrRange)
			} else {
				expect(t, "Head", e, api.OK)
			}
		}
		p.checkAll(t, "behind a collection of nothing")
		p.num(t, 1)
	}
}
