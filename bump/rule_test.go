package bump_test

import (
	"iter"
	"math"
	"slices"
	"testing"

	"midden/api"
	"midden/arena"
	"midden/bump"
	"midden/pool"
)

// Numbers from all over the range of int that are no place and no number of words of any space.
var (
	farBelow = []int{math.MinInt, math.MinInt + 1, math.MinInt + 64, -1 << 62, -1 << 32, -1<<32 + 1, -1<<32 + 3, -1 << 31, -1 << 19, -4096, -128, -65, -64, -63, -2, -1}
	farAbove = []int{1 << 19, 1<<19 + 1, 1 << 20, 1<<31 - 1, 1 << 31, 1<<32 - 1, 1 << 32, 1<<32 + 1, 1<<32 + 3, 1 << 61, 1 << 62, 1<<62 + 64, math.MaxInt - 63, math.MaxInt - 8, math.MaxInt - 1, math.MaxInt}
)

// thing is what was laid: its place, and how many words.
type thing struct{ at, words int }

// ground is a pool and an arena by their chapters' words alone: which blocks are taken, and how many words there are.
type ground struct {
	taken []bool
	words int
}

func (g *ground) isFree(first, n int) bool {
	return first+n <= len(g.taken) && !slices.Contains(g.taken[first:first+n], true)
}

func (g *ground) mark(first, n int, taken bool) {
	for i := range n {
		g.taken[first+i] = taken
	}
}

func (g *ground) left() int {
	n := 0
	for _, taken := range g.taken {
		if !taken {
			n++
		}
	}
	return n
}

// take tells a new group's first block, if the pool has one and the arena has all its words.
func (g *ground) take(n int) (int, bool) {
	for first := range g.taken {
		if !g.isFree(first, n) {
			continue
		}
		if (first+n)*64 > g.words {
			return 0, false
		}
		g.mark(first, n, true)
		return first, true
	}
	return 0, false
}

// group is some of a pool's blocks, and how many words are laid in them.
type group struct{ first, many, filled int }

// rule is a space by the chapter's words alone.
type rule struct {
	g      *ground
	things []thing
	small  []group // those of things of at most 64 words, in order: the last one is laid in
	great  []group
}

func (r *rule) put(at, n int) (int, api.Errno) {
	r.things = append(r.things, thing{at, n})
	return at, api.OK
}

func (r *rule) lay(n int) (int, api.Errno) {
	if n < 1 || n > 4096 {
		return 0, api.ErrSize
	}
	if n > 64 {
		many := n / 64
		if n%64 > 0 {
			many++
		}
		first, ok := r.g.take(many)
		if !ok {
			return 0, api.ErrFull
		}
		r.great = append(r.great, group{first, many, n})
		return r.put(first*64, n)
	}
	if last := len(r.small) - 1; last >= 0 && 64-r.small[last].filled >= n {
		at := r.small[last].first*64 + r.small[last].filled
		r.small[last].filled += n
		return r.put(at, n)
	}
	first, ok := r.g.take(1)
	if !ok {
		return 0, api.ErrFull
	}
	r.small = append(r.small, group{first, 1, n})
	return r.put(first*64, n)
}

func (r *rule) groups() []group { return slices.Concat(r.small, r.great) }

func (r *rule) blocks() int {
	n := 0
	for _, g := range r.groups() {
		n += g.many
	}
	return n
}

func (r *rule) free() {
	for _, g := range r.groups() {
		r.g.mark(g.first, g.many, false)
	}
	*r = rule{g: r.g}
}

func poolOf(t *testing.T, blocks int) *pool.Pool {
	t.Helper()
	p, e := pool.New(blocks)
	if e != api.OK {
		t.Fatalf("a pool of %d blocks: error %d", blocks, int(e))
	}
	return p
}

func arenaOf(t *testing.T, words int) *arena.Arena {
	t.Helper()
	a, e := arena.New(words)
	if e != api.OK {
		t.Fatalf("an arena of %d words: error %d", words, int(e))
	}
	return a
}

func spaceOf(t *testing.T, p *pool.Pool, a *arena.Arena) *bump.Space {
	t.Helper()
	s, e := bump.New(p, a)
	if e != api.OK || s == nil {
		t.Fatalf("New: a space %t, error %d", s != nil, int(e))
	}
	return s
}

// made tells a space, and its pool of so many blocks and its arena of just their words.
func made(t *testing.T, blocks int) (*bump.Space, *pool.Pool, *arena.Arena) {
	t.Helper()
	p, a := poolOf(t, blocks), arenaOf(t, blocks*64)
	return spaceOf(t, p, a), p, a
}

// lay lays what finds room, and tells the places.
func lay(t *testing.T, s *bump.Space, sizes ...int) []int {
	t.Helper()
	var places []int
	for _, n := range sizes {
		at, e := s.Lay(n)
		if e != api.OK {
			t.Fatalf("Lay(%d): %d, error %d", n, at, int(e))
		}
		places = append(places, at)
	}
	return places
}

func checkLay(t *testing.T, s *bump.Space, n, want int) {
	t.Helper()
	if at, e := s.Lay(n); at != want || e != api.OK {
		t.Errorf("Lay(%d) = %d, error %d; want %d", n, at, int(e), want)
	}
}

func checkRefused(t *testing.T, s *bump.Space, n int, want api.Errno) {
	t.Helper()
	if at, e := s.Lay(n); at != 0 || e != want {
		t.Errorf("Lay(%d) = %d, error %d; want 0, error %d", n, at, int(e), int(want))
	}
}

func checkFree(t *testing.T, s *bump.Space) {
	t.Helper()
	if e := s.Free(); e != api.OK {
		t.Errorf("Free: error %d", int(e))
	}
}

func checkLeft(t *testing.T, what string, p *pool.Pool, want int) {
	t.Helper()
	if p.Left() != want {
		t.Errorf("%s: the pool has %d blocks left; want %d", what, p.Left(), want)
	}
}

// list tells all that a range tells.
func list(each iter.Seq2[int, int]) []thing {
	var l []thing
	for at, n := range each {
		l = append(l, thing{at, n})
	}
	return l
}

func checkTold(t *testing.T, what string, got, want []thing) {
	t.Helper()
	if !slices.Equal(got, want) {
		t.Errorf("%s: %v; want %v", what, got, want)
	}
}

// checkSpace holds all that a space tells of itself to what was laid, and how many blocks that has.
func checkSpace(t *testing.T, what string, s *bump.Space, blocks int, things ...thing) {
	t.Helper()
	checkTold(t, what+": Each", list(s.Each()), things)
	used := 0
	for _, x := range things {
		used += x.words
		if !s.Has(x.at) {
			t.Errorf("%s: Has(%d) is false", what, x.at)
		}
	}
	if s.Used() != used || s.Blocks() != blocks {
		t.Errorf("%s: Used %d, Blocks %d; want %d, %d", what, s.Used(), s.Blocks(), used, blocks)
	}
}

// checkHas asks of each place of so many words, and of some beside them.
func checkHas(t *testing.T, what string, s *bump.Space, words int, things ...thing) {
	t.Helper()
	begins := make([]bool, words)
	for _, x := range things {
		begins[x.at] = true
	}
	for at, want := range begins {
		if s.Has(at) != want {
			t.Errorf("%s: Has(%d) is %t; want %t", what, at, !want, want)
		}
	}
	for i := range 130 {
		if s.Has(-1-i) || s.Has(words+i) {
			t.Errorf("%s: Has(%d) or Has(%d) is true, beside %d words", what, -1-i, words+i, words)
		}
	}
	for _, far := range slices.Concat(farBelow, farAbove) {
		if far >= words && s.Has(far) || far < 0 && s.Has(far) {
			t.Errorf("%s: Has(%d) is true", what, far)
		}
	}
}
