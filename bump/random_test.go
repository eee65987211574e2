package bump_test

import (
	"math"
	"math/rand/v2"
	"slices"
	"testing"

	"midden/api"
	"midden/arena"
	"midden/bump"
	"midden/pool"
)

// P15.2, P15.3, P15.4, P15.6, P15.7: calls in any order, held against the chapter's words.

// field is a pool and an arena, with what they should be, and what each word of the arena should be.
type field struct {
	p     *pool.Pool
	a     *arena.Arena
	g     *ground
	words []uint64
	marks uint64
}

// pair is a space and what it should be.
type pair struct {
	s *bump.Space
	r *rule
}

// fieldOf tells one whose words are all written ahead.
func fieldOf(t *testing.T, blocks, words int) *field {
	t.Helper()
	f := &field{
		p:     poolOf(t, blocks),
		a:     arenaOf(t, words),
		g:     &ground{taken: make([]bool, blocks), words: words},
		words: make([]uint64, words),
	}
	for at := range words {
		f.write(at, math.MaxUint64)
	}
	return f
}

func (f *field) write(at int, w uint64) {
	f.a.Write(at, w)
	f.words[at] = w
}

func (f *field) pair(t *testing.T) *pair {
	t.Helper()
	return &pair{spaceOf(t, f.p, f.a), &rule{g: f.g}}
}

// lay lays n words, and writes marks of their own to them, so that it is seen if another has one of them.
func (f *field) lay(t *testing.T, x *pair, n int) {
	t.Helper()
	want, wantE := x.r.lay(n)
	at, e := x.s.Lay(n)
	if at != want || e != wantE {
		t.Errorf("Lay(%d) = %d, error %d; want %d, error %d", n, at, int(e), want, int(wantE))
		return
	}
	if e != api.OK {
		return
	}
	for i := range n {
		if w, _ := f.a.Read(at + i); w != 0 {
			t.Errorf("behind Lay(%d) at %d the word %d is %d", n, at, at+i, w)
		}
		f.marks++
		f.write(at+i, f.marks)
	}
}

func (f *field) free(t *testing.T, x *pair) {
	t.Helper()
	x.r.free()
	checkFree(t, x.s)
}

func (f *field) check(t *testing.T, what string, pairs ...*pair) {
	t.Helper()
	for _, x := range pairs {
		checkSpace(t, what, x.s, x.r.blocks(), x.r.things...)
		checkLittleLost(t, what, x.r)
		checkLost(t, x.s)
	}
	checkLeft(t, what, f.p, f.g.left())
}

// checkWords holds each word of the arena to who wrote it last.
func (f *field) checkWords(t *testing.T, what string) {
	t.Helper()
	for at, want := range f.words {
		if w, _ := f.a.Read(at); w != want {
			t.Errorf("%s: the word %d is %d; want %d", what, at, w, want)
			return
		}
	}
}

// checkGroups holds the pool's groups to those that the spaces and others have.
func (f *field) checkGroups(t *testing.T, what string) {
	t.Helper()
	got := make([]bool, len(f.g.taken))
	for first, many := range f.p.Groups() {
		for i := range many {
			got[first+i] = true
		}
	}
	if !slices.Equal(got, f.g.taken) {
		t.Errorf("%s: the blocks that are taken are %v; want %v", what, got, f.g.taken)
	}
}

// checkLittleLost says P15.7 of a rule that a space was held to.
func checkLittleLost(t *testing.T, what string, r *rule) {
	t.Helper()
	small := 0
	for i, g := range r.small {
		small += g.filled
		if i > 0 && r.small[i-1].filled+g.filled <= 64 {
			t.Errorf("%s: the blocks %d and %d hold %d words together", what, r.small[i-1].first, g.first, r.small[i-1].filled+g.filled)
		}
	}
	if len(r.small) > 2*((small+63)/64)+1 {
		t.Errorf("%s: %d words have %d blocks", what, small, len(r.small))
	}
}

// Every row of a few calls on two spaces of every small pool, in arenas that have all its words, or not.
func TestEveryFewCalls(t *testing.T) {
	calls := []func(f *field, one, other *pair){
		func(f *field, one, other *pair) { f.lay(t, one, 1) },
		func(f *field, one, other *pair) { f.lay(t, one, 32) },
		func(f *field, one, other *pair) { f.lay(t, one, 64) },
		func(f *field, one, other *pair) { f.lay(t, one, 65) },
		func(f *field, one, other *pair) { f.free(t, one) },
		func(f *field, one, other *pair) { f.lay(t, other, 33) },
		func(f *field, one, other *pair) { f.free(t, other) },
	}
	const rows = 7 * 7 * 7 * 7 * 7
	for _, size := range [][2]int{{1, 64}, {2, 128}, {2, 127}, {3, 200}, {3, 128}, {4, 256}, {5, 319}} {
		for row := range rows {
			f := fieldOf(t, size[0], size[1])
			one, other := f.pair(t), f.pair(t)
			left := row
			for range 5 {
				calls[left%len(calls)](f, one, other)
				left /= len(calls)
				f.check(t, "behind a few calls", one, other)
			}
			f.checkWords(t, "behind a few calls")
			f.checkGroups(t, "behind a few calls")
			if t.Failed() {
				t.Fatalf("a pool of %d blocks, an arena of %d words, the row %d of calls", size[0], size[1], row)
			}
		}
	}
}

// anySize tells a number of words: most are small, some are great, a few may not be.
func anySize(g *rand.Rand) int {
	edges := []int{1, 2, 31, 32, 33, 62, 63, 64, 65, 66, 127, 128, 129, 192, 193, 4095, 4096}
	wrong := []int{0, -1, -64, 4097, 5000, math.MinInt, math.MaxInt, int(g.Uint64())}
	switch g.IntN(12) {
	case 0:
		return wrong[g.IntN(len(wrong))]
	case 1, 2:
		return edges[g.IntN(len(edges))]
	case 3:
		return 65 + g.IntN(400)
	case 4, 5:
		return 1 + g.IntN(64)
	}
	return 1 + g.IntN(12)
}

// other is who takes blocks of the pool beside all spaces.
type other struct{ groups []group }

func (o *other) call(f *field, g *rand.Rand) {
	if n := len(o.groups); n > 0 && g.IntN(2) == 0 {
		i := g.IntN(n)
		f.p.Free(o.groups[i].first)
		f.g.mark(o.groups[i].first, o.groups[i].many, false)
		o.groups = slices.Delete(o.groups, i, i+1)
		return
	}
	many := 1 + g.IntN(5)
	if first, e := f.p.Alloc(many); e == api.OK {
		f.g.mark(first, many, true)
		o.groups = append(o.groups, group{first: first, many: many})
	}
}

// Several spaces of one pool and arena, called by turns, while others take blocks of the pool, too.
func TestRandomCallsOnSpacesOfOnePool(t *testing.T) {
	for seed := range uint64(80) {
		g := rand.New(rand.NewPCG(seed, 15))
		blocks := 1 + g.IntN(150)
		words := blocks * 64
		if g.IntN(3) == 0 {
			words = max(1, words+g.IntN(1000)-800)
		}
		f := fieldOf(t, blocks, words)
		var pairs []*pair
		for range 1 + g.IntN(5) {
			pairs = append(pairs, f.pair(t))
		}
		var o other
		for range 400 {
			x := pairs[g.IntN(len(pairs))]
			switch g.IntN(40) {
			case 0:
				f.free(t, x)
			case 1, 2:
				o.call(f, g)
			case 3:
				f.write(g.IntN(words), g.Uint64())
			default:
				f.lay(t, x, anySize(g))
			}
			f.check(t, "behind a call", x)
		}
		f.checkWords(t, "at the end")
		f.checkGroups(t, "at the end")
		f.check(t, "at the end", pairs...)
		for _, x := range pairs {
			checkHas(t, "at the end", x.s, words, x.r.things...)
			f.free(t, x)
			f.check(t, "when all is given back", pairs...)
		}
		f.checkGroups(t, "when all is given back")
		if t.Failed() {
			t.Fatalf("the seed %d", seed)
		}
	}
}

// R4: the same calls tell the same, whatever stood in the words, and whatever was laid ahead and given back.
func TestSameCallsTellTheSame(t *testing.T) {
	run := func(before uint64, ahead int) []thing {
		s, _, a := made(t, 90)
		for at := range a.Len() {
			a.Write(at, before)
		}
		for i := range ahead {
			s.Lay(1 + i*17%200)
		}
		if ahead > 0 {
			checkFree(t, s)
		}
		g := rand.New(rand.NewPCG(7, 7))
		var told []thing
		for range 500 {
			at, e := s.Lay(anySize(g))
			told = append(told, thing{at, int(e)})
			if g.IntN(90) == 0 {
				told = append(told, list(s.Each())...)
				s.Free()
			}
		}
		return append(told, list(s.Each())...)
	}
	first := run(0, 0)
	for _, before := range []uint64{0, 1, math.MaxUint64} {
		for _, ahead := range []int{0, 1, 5, 300} {
			checkTold(t, "the same calls", run(before, ahead), first)
		}
	}
}

// R1: should another free a space's blocks all the same, each call ends, and none panics.
func TestBlocksThatAnotherFreed(t *testing.T) {
	for seed := range uint64(200) {
		g := rand.New(rand.NewPCG(seed, 4))
		s, p, a := made(t, 12)
		for range 100 {
			switch g.IntN(8) {
			case 0, 1:
				p.Free(g.IntN(12))
			case 2:
				p.Alloc(1 + g.IntN(3))
			case 3:
				if e := s.Free(); e != api.OK {
					t.Errorf("Free: error %d", int(e))
				}
				checkSpace(t, "behind Free", s, 0)
			default:
				s.Lay(anySize(g))
			}
			for at, n := range s.Each() {
				if !s.Has(at) || n < 1 || at+n > a.Len() {
					t.Errorf("what was laid is %d words at %d", n, at)
				}
			}
		}
	}
}
