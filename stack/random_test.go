package stack_test

import (
	"math"
	"math/rand/v2"
	"testing"

	"midden/api"
	"midden/stack"
)

// P14.3, P14.4, P14.5, P14.7: calls in any order, held against the chapter's words.

// pair is a stack and what it should be.
type pair struct {
	s *stack.Stack
	r rule
}

func (p *pair) check(t *testing.T, what string) {
	t.Helper()
	checkStack(t, what, p.s, p.r.frames...)
}

func (p *pair) push(t *testing.T, f api.Frame) {
	t.Helper()
	checkPush(t, p.s, f, p.r.push(f))
}

func (p *pair) pop(t *testing.T) {
	t.Helper()
	f, want := p.r.pop()
	if want != api.OK {
		checkPopRefused(t, p.s, want)
		return
	}
	checkPop(t, p.s, f)
}

func (p *pair) turn(f func(int) int) {
	p.s.Map(f)
	p.r.turn(f)
}

// Every row of a few calls on every stack of a few words.
func TestEveryFewCalls(t *testing.T) {
	calls := []func(*pair){
		func(p *pair) { p.push(t, ofSel(1, 2)) },
		func(p *pair) { p.push(t, ofUpd(3)) },
		func(p *pair) { p.push(t, ofArgs(4, 0)) },
		func(p *pair) { p.push(t, ofCase(5, 6, 524288, 7)) },
		func(p *pair) { p.pop(t) },
		func(p *pair) { p.turn(func(x int) int { return x + 8 }) },
	}
	const rows = 6 * 6 * 6 * 6 * 6
	for words := 1; words <= 6; words++ {
		for row := range rows {
			p := &pair{stackIn(t, arenaOf(t, words), 0, words), rule{words: words}}
			left := row
			for range 5 {
				calls[left%len(calls)](p)
				left /= len(calls)
				p.check(t, "behind a few calls")
			}
			if t.Failed() {
				t.Fatalf("a stack of %d words, the row %d of calls", words, row)
			}
		}
	}
}

// pick tells one of some numbers.
func pick(g *rand.Rand, l ...int) int { return l[g.IntN(len(l))] }

// anyFrame tells a frame that is right, but for a fault at times.
func anyFrame(g *rand.Rand) api.Frame {
	k := kindRules()[g.IntN(5)]
	most := k.mostPtrs
	if g.IntN(20) > 0 {
		most = min(most, 8)
	}
	f := api.Frame{
		Kind: k.kind,
		A:    pick(g, k.aLeast, k.aMost, k.aLeast+g.IntN(k.aMost-k.aLeast+1)),
		B:    pick(g, k.bLeast, k.bMost, k.bLeast+g.IntN(k.bMost-k.bLeast+1)),
	}
	for range k.fewestPtrs + g.IntN(most-k.fewestPtrs+1) {
		f.Ptrs = append(f.Ptrs, pick(g, 0, 524288, g.IntN(524289)))
	}
	if g.IntN(6) == 0 {
		spoil(g, &f)
	}
	return f
}

// spoil makes one part or more of a frame anything.
func spoil(g *rand.Rand, f *api.Frame) {
	junk := func() int { return pick(g, -1, 0, 6, 17, 524289, 1<<20, math.MinInt, math.MaxInt, int(g.Uint64())) }
	for range 1 + g.IntN(3) {
		switch g.IntN(5) {
		case 0:
			f.Kind = junk()
		case 1:
			f.A = junk()
		case 2:
			f.B = junk()
		case 3:
			f.Ptrs = append(f.Ptrs, junk())
		default:
			if len(f.Ptrs) > 0 {
				f.Ptrs[g.IntN(len(f.Ptrs))] = junk()
			}
		}
	}
}

// anyTurn tells a function of pointers, which may tell what no pointer can be.
func anyTurn(g *rand.Rand) func(int) int {
	by, least := int(g.Uint64()>>44), g.IntN(524289)
	return []func(int) int{
		func(p int) int { return p },
		func(p int) int { return p + by },
		func(p int) int { return p - by },
		func(p int) int { return least - p },
		func(p int) int { return p ^ by },
		func(p int) int { return p * by * by * by },
	}[g.IntN(6)]
}

// Several stacks side by side in one arena, called by turns; between them stand words that are nobody's.
func TestRandomCallsOnStacksSideBySide(t *testing.T) {
	for seed := range uint64(60) {
		g := rand.New(rand.NewPCG(seed, 14))
		a := arenaOf(t, 5000)
		for at := range a.Len() {
			a.Write(at, math.MaxUint64)
		}
		var pairs []*pair
		var gaps []int
		for at := 0; at < 4000; {
			words := pick(g, 1, 2, 5, 20, 100, 800)
			pairs = append(pairs, &pair{stackIn(t, a, at, words), rule{words: words}})
			at += words
			if g.IntN(2) == 0 {
				gaps = append(gaps, at)
				at++
			}
		}
		for range 600 {
			p := pairs[g.IntN(len(pairs))]
			switch g.IntN(8) {
			case 0, 1, 2, 3:
				p.push(t, anyFrame(g))
			case 4, 5, 6:
				p.pop(t)
			default:
				p.turn(anyTurn(g))
			}
			p.check(t, "behind a call")
		}
		for _, p := range pairs {
			p.check(t, "at the end")
			for len(p.r.frames) > 0 {
				p.pop(t)
			}
			p.pop(t)
		}
		for _, at := range gaps {
			if w, _ := a.Read(at); w != math.MaxUint64 {
				t.Errorf("the word %d, which is no stack's, is %d", at, w)
			}
		}
		if t.Failed() {
			t.Fatalf("the seed %d", seed)
		}
	}
}

// R4: the same calls tell the same, in whatever words, and whatever stood there.
func TestSameCallsTellTheSame(t *testing.T) {
	run := func(from int, before uint64) []api.Frame {
		a := arenaOf(t, 700)
		for at := range a.Len() {
			a.Write(at, before)
		}
		s := stackIn(t, a, from, 500)
		g := rand.New(rand.NewPCG(7, 7))
		var told []api.Frame
		for range 400 {
			s.Push(anyFrame(g))
			if g.IntN(3) == 0 {
				f, _ := s.Pop()
				told = append(told, f)
			}
			if g.IntN(9) == 0 {
				s.Map(anyTurn(g))
			}
		}
		return append(told, list(s.Frames())...)
	}
	first := run(0, 0)
	for _, from := range []int{0, 1, 200} {
		for _, before := range []uint64{0, 1, 0x1ff, math.MaxUint64} {
			checkTold(t, "the same calls", run(from, before), first)
		}
	}
}

// R1: should another write a stack's words all the same, each call ends, and none panics.
func TestWordsThatAnotherWrote(t *testing.T) {
	for seed := range uint64(300) {
		g := rand.New(rand.NewPCG(seed, 3))
		a := arenaOf(t, 40)
		s, other := stackIn(t, a, 0, 40), stackIn(t, a, 5, 30)
		for range 60 {
			switch g.IntN(6) {
			case 0, 1:
				s.Push(anyFrame(g))
			case 2:
				other.Push(anyFrame(g))
			case 3:
				s.Pop()
			case 4:
				a.Write(g.IntN(40), g.Uint64()>>uint(g.IntN(64)))
			default:
				other.Map(anyTurn(g))
				s.Map(anyTurn(g))
			}
			list(s.Frames())
			list(other.Frames())
		}
	}
}
