package heap_test

import (
	"slices"
	"testing"

	"midden/api"
)

// Each call here is done on a heap and on what it should be, and both answers are held against each other.

func (p *pair) lay(t *testing.T, x api.Head, ptrs []int, nons []uint64) (int, api.Errno) {
	t.Helper()
	want, wantE := p.r.lay(x, ptrs, nons)
	at, e := p.h.Lay(x, ptrs, nons)
	if at != want || e != wantE {
		t.Errorf("Lay(%+v, %d pointers, %d words) = %d, error %d; want %d, error %d", x, len(ptrs), len(nons), at, int(e), want, int(wantE))
	}
	return at, e
}

func same(t *testing.T, what string, got, want api.Errno, args ...int) api.Errno {
	t.Helper()
	if got != want {
		t.Errorf("%s%v: error %d; want %d", what, args, int(got), int(want))
	}
	return got
}

func (p *pair) set(t *testing.T, at, i, to int) api.Errno {
	t.Helper()
	want := p.r.put(at, i, to, true)
	return same(t, "Set", p.h.Set(at, i, to), want, at, i, to)
}

func (p *pair) store(t *testing.T, at, i, to int) api.Errno {
	t.Helper()
	want := p.r.put(at, i, to, false)
	return same(t, "Store", p.h.Store(at, i, to), want, at, i, to)
}

func (p *pair) pass(t *testing.T, at, to int) api.Errno {
	t.Helper()
	want := p.r.pass(at, to)
	return same(t, "Pass", p.h.Pass(at, to), want, at, to)
}

func (p *pair) hole(t *testing.T, at int) api.Errno {
	t.Helper()
	want := p.r.hole(at)
	return same(t, "Hole", p.h.Hole(at), want, at)
}

func (p *pair) fail(t *testing.T, at int, n api.Errno) api.Errno {
	t.Helper()
	want := p.r.fail(at, n)
	return same(t, "Fail", p.h.Fail(at, n), want, at, int(n))
}

func (p *pair) begin(t *testing.T, gen int) api.Errno {
	t.Helper()
	want := p.r.begin(gen)
	return same(t, "Begin", p.h.Begin(gen), want, gen)
}

func (p *pair) evacuate(t *testing.T, at, least int) (int, api.Errno) {
	t.Helper()
	want, wantE := p.r.evacuate(at, least)
	to, e := p.h.Evacuate(at, least)
	if to != want || e != wantE {
		t.Errorf("Evacuate(%d, %d) = %d, error %d; want %d, error %d", at, least, to, int(e), want, int(wantE))
	}
	return to, e
}

func (p *pair) fresh(t *testing.T) (int, bool) {
	t.Helper()
	want, wantOk := p.r.next()
	at, ok := p.h.Fresh()
	if at != want || ok != wantOk {
		t.Errorf("Fresh = %d, %t; want %d, %t", at, ok, want, wantOk)
	}
	return at, ok
}

func (p *pair) finish(t *testing.T) api.Errno {
	t.Helper()
	want := p.r.finish()
	return same(t, "Finish", p.h.Finish(), want)
}

// checkAt holds all looks at a place to what stands there.
func (p *pair) checkAt(t *testing.T, what string, at int) {
	t.Helper()
	c, want := p.r.look(at)
	if c == nil {
		c = &closure{}
	}
	if x, e := p.h.Head(at); x != c.head || e != want {
		t.Errorf("%s: Head(%d) = %+v, error %d; want %+v, error %d", what, at, x, int(e), c.head, int(want))
	}
	p.checkParts(t, what, at, c, want)
	gen, step, wantWhere := c.gen, c.step, want
	if !p.r.dead && !p.r.has(at) {
		gen, step, wantWhere = 0, 0, api.ErrRange
	}
	if g, s, e := p.h.Where(at); g != gen || s != step || e != wantWhere {
		t.Errorf("%s: Where(%d) = %d, %d, error %d; want %d, %d, error %d", what, at, g, s, int(e), gen, step, int(wantWhere))
	}
	to, ok := p.r.moved(at)
	if got, is := p.h.Moved(at); got != to || is != ok {
		t.Errorf("%s: Moved(%d) = %d, %t; want %d, %t", what, at, got, is, to, ok)
	}
}

// checkParts holds all pointers and other words of a closure, and one beside them at each end.
func (p *pair) checkParts(t *testing.T, what string, at int, c *closure, want api.Errno) {
	t.Helper()
	for i := -1; i <= len(c.ptrs); i++ {
		ptr, wantE := 0, want
		if i >= 0 && i < len(c.ptrs) {
			ptr = c.ptrs[i]
		} else if want == api.OK {
			wantE = api.ErrIndex
		}
		if got, e := p.h.Ptr(at, i); got != ptr || e != wantE {
			t.Errorf("%s: Ptr(%d, %d) = %d, error %d; want %d, error %d", what, at, i, got, int(e), ptr, int(wantE))
		}
	}
	for i := -1; i <= len(c.nons); i++ {
		non, wantE := uint64(0), want
		if i >= 0 && i < len(c.nons) {
			non = c.nons[i]
		} else if want == api.OK {
			wantE = api.ErrIndex
		}
		if got, e := p.h.Non(at, i); got != non || e != wantE {
			t.Errorf("%s: Non(%d, %d) = %d, error %d; want %d, error %d", what, at, i, got, int(e), non, int(wantE))
		}
	}
}

// checkGens holds all that is told of generations and steps, and of those that are none beside them.
func (p *pair) checkGens(t *testing.T, what string) {
	t.Helper()
	for gen := -1; gen <= p.r.c.Gens; gen++ {
		for step := -1; step <= p.r.c.Steps; step++ {
			if got, want := p.h.Closures(gen, step), p.r.closures(gen, step); !slices.Equal(got, want) {
				t.Errorf("%s: Closures(%d, %d): %v; want %v", what, gen, step, got, want)
			}
		}
		if got, want := p.h.Old(gen), p.r.list(gen); !slices.Equal(got, want) {
			t.Errorf("%s: Old(%d): %v; want %v", what, gen, got, want)
		}
		if got, want := p.h.Used(gen), p.r.used(gen); got != want {
			t.Errorf("%s: Used(%d) = %d; want %d", what, gen, got, want)
		}
		if got, want := p.h.Blocks(gen), p.r.blocks(gen); got != want {
			t.Errorf("%s: Blocks(%d) = %d; want %d", what, gen, got, want)
		}
	}
	if got, want := p.h.Left(), p.r.left(); got != want {
		t.Errorf("%s: Left = %d; want %d", what, got, want)
	}
	if got := p.h.Config(); got != p.r.c {
		t.Errorf("%s: Config = %+v; want %+v", what, got, p.r.c)
	}
}

// check holds a heap to what it should be: at all addresses, and at the places beside them.
func (p *pair) check(t *testing.T, what string) {
	t.Helper()
	p.checkGens(t, what)
	for _, at := range p.r.known() {
		for beside := at - 1; beside <= at+1; beside++ {
			p.checkAt(t, what, beside)
		}
	}
}

// checkAll does so at all places of the arena, and at some that are none.
func (p *pair) checkAll(t *testing.T, what string) {
	t.Helper()
	p.checkGens(t, what)
	for at := -2; at < 64*p.r.c.Blocks+66; at++ {
		p.checkAt(t, what, at)
	}
	for _, at := range farNumbers() {
		if at < 0 || at > 64*p.r.c.Blocks {
			p.checkAt(t, what, at)
		}
	}
}

// expect holds an error to what a test wants of it, beside what the rule says.
func expect(t *testing.T, what string, got, want api.Errno) {
	t.Helper()
	if got != want {
		t.Fatalf("%s: error %d; want %d", what, int(got), int(want))
	}
}

// must lays what finds room.
func (p *pair) must(t *testing.T, x api.Head, ptrs []int, nons []uint64) int {
	t.Helper()
	at, e := p.lay(t, x, ptrs, nons)
	expect(t, "Lay", e, api.OK)
	return at
}

// filled lays a closure whose pointers are all the same, and whose other words are told apart.
func (p *pair) filled(t *testing.T, x api.Head, ptr int) int {
	t.Helper()
	var nons []uint64
	for i := range x.Nons {
		nons = append(nons, 1<<63+uint64(i)*1_000_003)
	}
	return p.must(t, x, slices.Repeat([]int{ptr}, x.Ptrs), nons)
}

// num lays a number, ref a variable, thunk one that needs so many.
func (p *pair) num(t *testing.T, n uint64) int {
	t.Helper()
	return p.must(t, api.Head{Kind: api.KInt, Nons: 1}, nil, []uint64{n})
}

func (p *pair) ref(t *testing.T, to int) int {
	t.Helper()
	return p.must(t, api.Head{Kind: api.KRef, Ptrs: 1}, []int{to}, nil)
}

func (p *pair) thunk(t *testing.T, ptrs ...int) int {
	t.Helper()
	return p.must(t, api.Head{Kind: api.KThunk, Info: 5, Ptrs: len(ptrs)}, ptrs, nil)
}

// move moves what finds room.
func (p *pair) move(t *testing.T, at, least int) int {
	t.Helper()
	to, e := p.evacuate(t, at, least)
	expect(t, "Evacuate", e, api.OK)
	return to
}

// scan moves all that a closure points to, and lets it point there.
func (p *pair) scan(t *testing.T, at int) {
	t.Helper()
	for i := range p.r.there[at].ptrs {
		q, _ := p.h.Ptr(at, i)
		expect(t, "Store", p.store(t, at, i, p.move(t, q, 0)), api.OK)
	}
}

// root is a closure that is kept, and the generation that it shall be of at least.
type root struct{ at, least int }

// collect does a collection, and tells where the roots went.
func (p *pair) collect(t *testing.T, gen int, roots ...root) []int {
	t.Helper()
	expect(t, "Begin", p.begin(t, gen), api.OK)
	var l []int
	for _, x := range roots {
		l = append(l, p.move(t, x.at, x.least))
	}
	for old := range p.r.c.Gens {
		for _, at := range p.h.Old(old) {
			p.scan(t, at)
		}
	}
	for at, ok := p.fresh(t); ok; at, ok = p.fresh(t) {
		p.scan(t, at)
	}
	expect(t, "Finish", p.finish(t), api.OK)
	return l
}

// raise does a collection of generation 0 that keeps some closures, and lets each be of a generation.
func (p *pair) raise(t *testing.T, gen int, places ...int) []int {
	t.Helper()
	var roots []root
	for _, at := range places {
		roots = append(roots, root{at, gen})
	}
	return p.collect(t, 0, roots...)
}
