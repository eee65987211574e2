package stable_test

import (
	"math"
	"math/rand/v2"
	"slices"
	"testing"

	"midden/api"
	"midden/stable"
)

// P17.2, P17.3, P17.4, P17.6: calls in any order, held against the chapter's words.

// pair is a table and what it should be, and all handles that were told.
type pair struct {
	x    *stable.Table
	r    rule
	told []int
}

func pairOf(t *testing.T, most int) *pair {
	t.Helper()
	return &pair{made(t, most), rule{most: most}, nil}
}

func (p *pair) make(t *testing.T, at int) {
	t.Helper()
	h, e := p.r.make(at)
	checkMake(t, p.x, at, h, e)
	if e == api.OK {
		p.told = append(p.told, h)
	}
}

func (p *pair) get(t *testing.T, h int) {
	t.Helper()
	at, e := p.r.get(h)
	checkGet(t, p.x, h, at, e)
}

func (p *pair) free(t *testing.T, h int) {
	t.Helper()
	checkFree(t, p.x, h, p.r.free(h))
}

func (p *pair) turn(f func(int) int) {
	p.x.Map(f)
	p.r.turnAll(f)
}

func (p *pair) check(t *testing.T, what string) {
	t.Helper()
	checkTable(t, what, p.x, p.r.inSlots()...)
}

// checkOnce holds what was told to be told once, and what was freed to be stale for ever.
func (p *pair) checkOnce(t *testing.T) {
	t.Helper()
	checkTwice(t, p.told)
	for _, h := range p.told {
		p.get(t, h)
	}
}

// checkTwice holds no handle to be told twice.
func checkTwice(t *testing.T, told []int) {
	t.Helper()
	l := slices.Sorted(slices.Values(told))
	for i := 1; i < len(l); i++ {
		if l[i-1] == l[i] {
			t.Errorf("the handle %d is told twice", l[i])
		}
	}
}

// Every row of a few calls on tables of a few slots.
func TestEveryFewCalls(t *testing.T) {
	calls := []func(p *pair){
		func(p *pair) { p.make(t, 1) },
		func(p *pair) { p.make(t, mostWords) },
		func(p *pair) { p.make(t, 0) },
		func(p *pair) { p.free(t, 256) },
		func(p *pair) { p.free(t, 257) },
		func(p *pair) { p.free(t, 512) },
		func(p *pair) { p.turn(func(at int) int { return at + 1 }) },
		func(p *pair) { p.turn(func(at int) int { return 2 * (mostWords - at) }) },
	}
	for most := 1; most <= 3; most++ {
		for row := range 8 * 8 * 8 * 8 * 8 {
			p := pairOf(t, most)
			left := row
			for range 5 {
				calls[left%len(calls)](p)
				left /= len(calls)
				p.check(t, "behind a few calls")
			}
			p.checkOnce(t)
			if t.Failed() {
				t.Fatalf("a table of %d slots, the row %d of calls", most, row)
			}
		}
	}
}

// pick tells one of some numbers.
func pick(g *rand.Rand, l ...int) int { return l[g.IntN(len(l))] }

// anyPlace tells an address, which is none at times.
func anyPlace(g *rand.Rand) int {
	if g.IntN(10) == 0 {
		return pick(g, append(noPlaces(), int(g.Uint64()))...)
	}
	return pick(g, 1, 2, mostWords, 1+g.IntN(mostWords), 1+g.IntN(20))
}

// anyHandle tells one that was told, or one that is near to such a one, or any number.
func anyHandle(g *rand.Rand, p *pair) int {
	if len(p.told) == 0 || g.IntN(12) == 0 {
		return pick(g, append(noPlaces(), int(g.Uint64()), g.IntN(256), 256+g.IntN(1024))...)
	}
	last := len(p.told) - 1
	h := pick(g, p.told[g.IntN(len(p.told))], p.told[last-g.IntN(min(last+1, 40))])
	if g.IntN(5) == 0 {
		return pick(g, h+256, h-256, h%256, h+1, h-1, -h, h^1<<g.IntN(64))
	}
	return h
}

// anyTurn tells a function of addresses, which may tell what is none.
func anyTurn(g *rand.Rand) func(int) int {
	by, least := int(g.Uint64()>>pick(g, 44, 60)), g.IntN(mostWords+1)
	return []func(int) int{
		same,
		func(at int) int { return at + by },
		func(at int) int { return at - by },
		func(at int) int { return least - at },
		func(at int) int { return at ^ by },
		func(at int) int { return at * by * by * by },
		func(at int) int { return least },
		func(at int) int { return int(uint64(at) << 45) },
	}[g.IntN(8)]
}

func TestRandomCalls(t *testing.T) {
	for seed := range uint64(300) {
		g := rand.New(rand.NewPCG(seed, 17))
		p := pairOf(t, pick(g, 1, 2, 3, 5, 20, 255, 256, 1+g.IntN(256)))
		fewer := 1 + g.IntN(9) // the fewer are freed, the fuller the table is
		for range 400 {
			switch g.IntN(10 + fewer) {
			case 0:
				p.turn(anyTurn(g))
			case 1, 2:
				p.get(t, anyHandle(g, p))
			case 3, 4, 5, 6:
				p.free(t, anyHandle(g, p))
			default:
				p.make(t, anyPlace(g))
			}
			checkRow(t, "All", p.x.All(), places(p.r.inSlots()))
			if p.x.Len() != len(p.r.holds) {
				t.Errorf("Len %d; want %d", p.x.Len(), len(p.r.holds))
			}
		}
		p.check(t, "at the end")
		p.checkOnce(t)
		if t.Failed() {
			t.Fatalf("the seed %d", seed)
		}
	}
}

func places(l []hold) []int {
	var out []int
	for _, x := range l {
		out = append(out, x.at)
	}
	return out
}

// R4: the same calls tell the same, whatever was done to other tables ahead.
func TestSameCallsTellTheSame(t *testing.T) {
	run := func(ahead int) []int {
		before := made(t, 256)
		for i := range ahead {
			h, _ := before.Make(1 + i)
			if i%3 > 0 {
				before.Free(h)
			}
		}
		p := pairOf(t, 9)
		g := rand.New(rand.NewPCG(7, 7))
		var told []int
		for range 600 {
			h, e := p.x.Make(anyPlace(g))
			if e == api.OK {
				p.told = append(p.told, h)
			}
			at, got := p.x.Get(anyHandle(g, p))
			told = append(told, h, int(e), at, int(got), int(p.x.Free(anyHandle(g, p))), p.x.Len())
			if g.IntN(9) == 0 {
				p.x.Map(anyTurn(g))
			}
			told = append(told, p.x.All()...)
		}
		return told
	}
	want := run(0)
	for _, ahead := range []int{0, 1, 7, 100, 5000} {
		if !slices.Equal(run(ahead), want) {
			t.Errorf("behind %d that were made in another table the same calls tell something else", ahead)
		}
	}
}

// R5: numbers of int from all over its range, as addresses and as handles.
func TestNumbersOfAnySize(t *testing.T) {
	g := rand.New(rand.NewPCG(17, 5))
	p := pairOf(t, 3)
	p.make(t, 5)
	p.make(t, mostWords)
	for range 20000 {
		n := int(g.Uint64()) >> g.IntN(64)
		if g.IntN(2) == 0 {
			n = math.MinInt + n
		}
		p.get(t, n)
		p.free(t, n)
		if !isPlace(n) {
			p.make(t, n)
		}
	}
	p.check(t, "behind it")
	p.checkOnce(t)
}
