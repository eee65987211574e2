package remember_test

import (
	"math/rand/v2"
	"slices"
	"testing"

	"midden/remember"
)

// P16.2, P16.3, P16.5: calls in any order, held against the chapter's words.

// pair is lists and what they should be.
type pair struct {
	l *remember.Lists
	r rule
}

func pairOf(t *testing.T, gens int) *pair {
	t.Helper()
	return &pair{made(t, gens), make(rule, gens)}
}

func (x *pair) put(t *testing.T, gen, at int) {
	t.Helper()
	checkPut(t, x.l, gen, at, x.r.put(gen, at))
}

func (x *pair) drop(t *testing.T, gen, at int) {
	t.Helper()
	checkDrop(t, x.l, gen, at, x.r.drop(gen, at))
}

func (x *pair) take(t *testing.T, gen int) {
	t.Helper()
	checkTake(t, x.l, gen, x.r.take(gen)...)
}

func (x *pair) check(t *testing.T, what string) {
	t.Helper()
	want := make([][]int, len(x.r))
	for gen := range want {
		want[gen] = x.r.all(gen)
	}
	checkLists(t, what, x.l, want...)
	if x.l.Len() != x.r.count() {
		t.Errorf("%s: Len %d; want %d", what, x.l.Len(), x.r.count())
	}
}

// Every row of a few calls on two lists.
func TestEveryFewCalls(t *testing.T) {
	calls := []func(x *pair){
		func(x *pair) { x.put(t, 0, 1) },
		func(x *pair) { x.put(t, 0, mostWords) },
		func(x *pair) { x.put(t, 1, 1) },
		func(x *pair) { x.put(t, 2, 1) },
		func(x *pair) { x.put(t, 0, 0) },
		func(x *pair) { x.drop(t, 0, 1) },
		func(x *pair) { x.drop(t, 1, 1) },
		func(x *pair) { x.take(t, 0) },
		func(x *pair) { x.take(t, 1) },
	}
	for row := range 9 * 9 * 9 * 9 * 9 {
		x := pairOf(t, 2)
		left := row
		for range 5 {
			calls[left%len(calls)](x)
			left /= len(calls)
			x.check(t, "behind a few calls")
		}
		if t.Failed() {
			t.Fatalf("the row %d of calls", row)
		}
	}
}

// anyGen tells a number of a list, and now and then one that is none.
func anyGen(g *rand.Rand, gens int) int {
	if g.IntN(12) == 0 {
		wrong := noGens(gens)
		return wrong[g.IntN(len(wrong))]
	}
	return g.IntN(gens)
}

// anyPlace tells an address: most are of a few, so that they come again; some are none.
func anyPlace(g *rand.Rand) int {
	switch g.IntN(14) {
	case 0:
		wrong := noPlaces()
		return wrong[g.IntN(len(wrong))]
	case 1:
		return int(g.Uint64())
	case 2:
		return 1 + g.IntN(mostWords)
	case 3:
		return mostWords - g.IntN(4)
	}
	return 1 + g.IntN(25)
}

func TestRandomCalls(t *testing.T) {
	for seed := range uint64(300) {
		g := rand.New(rand.NewPCG(seed, 16))
		gens := 1 + g.IntN(4)
		x := pairOf(t, gens)
		for range 300 {
			gen, at := anyGen(g, gens), anyPlace(g)
			switch g.IntN(24) {
			case 0:
				x.take(t, gen)
			case 1, 2, 3, 4, 5, 6, 7:
				x.drop(t, gen, at)
			default:
				x.put(t, gen, at)
			}
			checkHas(t, x.l, gen, at, x.r.has(gen, at))
			checkRow(t, "All", x.l.All(gen), x.r.all(gen))
			if x.l.Len() != x.r.count() {
				t.Errorf("Len %d; want %d", x.l.Len(), x.r.count())
			}
		}
		x.check(t, "at the end")
		if t.Failed() {
			t.Fatalf("the seed %d", seed)
		}
	}
}

// P16.5: the same addresses, mixed in many ways, some put more than once.
func TestMixedOrders(t *testing.T) {
	for seed := range uint64(100) {
		g := rand.New(rand.NewPCG(seed, 5))
		var places []int
		for range 1 + g.IntN(200) {
			places = append(places, 1+g.IntN(mostWords))
		}
		want := slices.Compact(slices.Sorted(slices.Values(places)))
		mixed := slices.Concat(places, places[:g.IntN(len(places)+1)])
		g.Shuffle(len(mixed), func(i, j int) { mixed[i], mixed[j] = mixed[j], mixed[i] })
		l := made(t, 1)
		put(t, l, 0, mixed...)
		checkRow(t, "mixed", l.All(0), want)
		if l.Len() != len(want) {
			t.Errorf("Len %d; want %d", l.Len(), len(want))
		}
		checkTake(t, l, 0, want...)
	}
}

// R4: the same calls tell the same, whatever was put ahead and taken or dropped.
func TestSameCallsTellTheSame(t *testing.T) {
	run := func(ahead int) []int {
		l := made(t, 4)
		for i := range ahead {
			put(t, l, i%4, 1+i*37%mostWords)
		}
		for i := range ahead {
			drop(t, l, i%2, 1+i*37%mostWords)
		}
		l.Take(2)
		l.Take(3)
		g := rand.New(rand.NewPCG(7, 7))
		var told []int
		for range 500 {
			gen, at := anyGen(g, 4), anyPlace(g)
			told = append(told, int(l.Put(gen, at)), int(l.Drop(gen, at-3)), l.Len())
			told = append(told, l.All(gen)...)
			if g.IntN(60) == 0 {
				told = append(told, l.Take(gen)...)
			}
		}
		return told
	}
	first := run(0)
	for _, ahead := range []int{0, 1, 7, 100, 5000} {
		if !slices.Equal(run(ahead), first) {
			t.Errorf("behind %d that were put ahead the same calls tell something else", ahead)
		}
	}
}
