package graph_test

import (
	"math"
	"slices"
	"testing"

	"midden/api"
	"midden/graph"
)

func ind(kids ...int) api.Node { return api.Node{Kind: api.KInd, Kids: kids} }

func num(n uint64) api.Node { return api.Node{Kind: api.KInt, Nons: []uint64{n}} }

func con(info int, kids ...int) api.Node { return api.Node{Kind: api.KCon, Info: info, Kids: kids} }

func sel(info int, field uint64, kids ...int) api.Node {
	return api.Node{Kind: api.KSel, Info: info, Nons: []uint64{field}, Kids: kids}
}

func roots(l ...int) []int { return l }

func of(roots []int, nodes ...api.Node) api.Graph { return api.Graph{Roots: roots, Nodes: nodes} }

// noNodes tells numbers that are no node's of so many: each of Go's range, among them such as would be one's if they were cut to fewer bits.
func noNodes(many int) []int {
	l := []int{-1, -2, -3, -many, -many - 1, math.MinInt, math.MinInt + 1, math.MinInt32, -1 << 32, -1<<32 + 1, -1 << 62}
	return append(l, many, many+1, 1<<16, 1<<31-1, 1<<31, 1<<32, 1<<32+1, 1<<40, 1<<62, math.MaxInt-1, math.MaxInt)
}

// P19.2

func TestNormOfWhatIsReached(t *testing.T) {
	a, b, c := num(7), num(8), num(9)
	for _, x := range []struct {
		what      string
		got, want api.Graph
	}{
		{"nothing", api.Graph{}, api.Graph{}},
		{"no roots", of(nil, a, con(1, 0)), api.Graph{}},
		{"empty lists", of([]int{}, api.Node{Nons: []uint64{}, Kids: []int{}}), api.Graph{}},
		{"one", of(roots(0), a), of(roots(0), a)},
		{"one twice", of(roots(0, 0), a), of(roots(0, 0), a)},
		{"the last alone", of(roots(2), a, b, c), of(roots(0), c)},
		{"all, backwards", of(roots(2, 1, 0), a, b, c), of(roots(0, 1, 2), c, b, a)},
		{"roots that are none", of(roots(-1, 1, 3, 1, 0), a, b, c), of(roots(-1, 0, -1, 0, 1), b, a)},
		{"Kids that are none", of(roots(0), con(1, 1, -1, 2, 5), num(1)), of(roots(0), con(1, 1, -1, -1, -1), num(1))},
		{"none at all", of(roots(0, 1, -1)), of(roots(-1, -1, -1))},
		{"each with all below it ahead of the next one", of(roots(0), con(1, 1, 2), con(2, 3, 4), con(3, 4, 5), a, b, c), of(roots(0), con(1, 1, 4), con(2, 2, 3), a, b, con(3, 3, 5), c)},
		{"met deeper ahead of higher", of(roots(0), con(1, 2, 1), a, con(2, 3), con(3, 1)), of(roots(0), con(1, 1, 3), con(2, 2), con(3, 3), a)},
		{"a root that another one reached", of(roots(1, 0, 2), a, con(1, 2, 0), b), of(roots(0, 2, 1), con(1, 1, 2), b, a)},
		{"to itself", of(roots(1), a, con(1, 1, 1)), of(roots(0), con(1, 0, 0))},
		{"a ring", of(roots(2), con(1, 1), con(2, 2), con(3, 0)), of(roots(0), con(3, 1), con(1, 2), con(2, 0))},
		{"back to the top from below", of(roots(3), a, con(1, 3, 0), con(2, 1), con(3, 2, 0)), of(roots(0), con(3, 1, 3), con(2, 2), con(1, 0, 3), a)},
		{"what is on the way stays", of(roots(1), a, ind(2), ind(0)), of(roots(0), ind(1), ind(2), a)},
	} {
		want(t, x.what, checkNorm(t, x.what, x.got), x.want)
		if graph.Words(x.got) != ruleWords(x.got) {
			t.Errorf("%s: Words %d; want %d", x.what, graph.Words(x.got), ruleWords(x.got))
		}
	}
}

// oddNodes tells nodes with whatever numbers, most of which no closure could have.
func oddNodes() []api.Node {
	l := []api.Node{{}, {Kids: []int{0}}, {Nons: []uint64{0, math.MaxUint64}}}
	for _, n := range []int{-1, 0, 1, 2, 12, 13, 1 << 20, math.MinInt, math.MaxInt, 1<<32 + api.KInd, 1<<32 + api.KSel, -api.KInd, 1<<8 + api.KInd} {
		l = append(l, api.Node{Kind: n}, api.Node{Info: n}, api.Node{Kind: n, Info: n, Nons: []uint64{uint64(n), 5, 5}, Kids: []int{0, 1, -1, n, 1}})
	}
	return l
}

func TestNormKeepsKindInfoAndWords(t *testing.T) {
	for _, x := range oddNodes() {
		g := of(roots(1, 2), num(3), con(4, 0, 2), x)
		checkNorm(t, "an odd node", g)
		y := graph.Norm(of(roots(1), num(3), x))
		if n := y.Nodes[0]; n.Kind != x.Kind || n.Info != x.Info || !slices.Equal(n.Nons, x.Nons) || len(n.Kids) != len(x.Kids) {
			t.Errorf("Norm lets %v be %v", x, n)
		}
	}
	for kind := range 14 {
		x := api.Node{Kind: kind, Info: 1<<20 - 1 - kind, Nons: []uint64{1 << 63, 0, uint64(kind)}, Kids: []int{0, -1}}
		want(t, "each kind", checkNorm(t, "each kind", of(roots(0), x)), of(roots(0), x))
	}
}

func TestNormOfNumbersThatAreNone(t *testing.T) {
	for many := 1; many < 4; many++ {
		for _, n := range noNodes(many) {
			nodes := []api.Node{con(1, n, 0, n), num(5), num(6)}[:many]
			g := of(roots(n, 0, n), nodes...)
			want(t, "numbers that are none", checkNorm(t, "numbers that are none", g), of(roots(-1, 0, -1), con(1, -1, 0, -1)))
			want(t, "numbers that are none: Short", checkShort(t, "numbers that are none", g), of(roots(-1, 0, -1), con(1, -1, 0, -1)))
		}
	}
	for _, n := range noNodes(0) {
		want(t, "no nodes", checkNorm(t, "no nodes", of(roots(n, n))), of(roots(-1, -1)))
	}
}

// P19.4

func TestWords(t *testing.T) {
	for _, x := range []struct {
		g    api.Graph
		want int
	}{
		{api.Graph{}, 0},
		{of(roots(0, 1, -1, 5)), 0},
		{of(nil, api.Node{}), 1},
		{of(nil, num(7)), 2},
		{of(roots(0), num(7)), 2},
		{of(nil, con(1, -1, 99, math.MinInt)), 4},
		{of(nil, api.Node{Kind: 77, Nons: make([]uint64, 4095)}), 4096},
		{of(nil, api.Node{Kind: api.KArr, Kids: make([]int, 1024)}), 1025},
		{of(nil, sel(3, 1, 0)), 3},
		{of(roots(0), ind(0), num(1), con(1, 0, 0), api.Node{Kind: 8, Nons: []uint64{1, 2, 3}, Kids: []int{0}}), 12},
	} {
		h := handed(x.g)
		if n := graph.Words(h); n != x.want || n != ruleWords(x.g) {
			t.Errorf("Words of %v: %d; want %d", x.g, n, x.want)
		}
		if !untouched(h, x.g) {
			t.Errorf("Words of %v: what was handed in is changed", x.g)
		}
	}
}

// spoiled tells graphs that part from one in one thing alone.
func spoiled(g api.Graph) map[string]api.Graph {
	l := map[string]api.Graph{}
	but := func(what string, do func(x *api.Graph)) {
		x := handed(g)
		do(&x)
		l[what] = x
	}
	but("a root more", func(x *api.Graph) { x.Roots = append(x.Roots, 0) })
	but("a root that is none more", func(x *api.Graph) { x.Roots = append(x.Roots, -1) })
	but("a root fewer", func(x *api.Graph) { x.Roots = x.Roots[:len(x.Roots)-1] })
	but("no roots", func(x *api.Graph) { x.Roots = nil })
	but("the first root", func(x *api.Graph) { x.Roots[0] = 1 })
	but("the first root none", func(x *api.Graph) { x.Roots[0] = -1 })
	but("the last root a node", func(x *api.Graph) { x.Roots[2] = 0 })
	but("roots the other way", func(x *api.Graph) { slices.Reverse(x.Roots) })
	but("a node more", func(x *api.Graph) { x.Nodes = append(x.Nodes, api.Node{}) })
	but("a node fewer", func(x *api.Graph) { x.Nodes = x.Nodes[:3] })
	but("the first node fewer", func(x *api.Graph) { x.Nodes = x.Nodes[1:] })
	but("no nodes", func(x *api.Graph) { x.Nodes = nil })
	but("two nodes the other way", func(x *api.Graph) { x.Nodes[1], x.Nodes[2] = x.Nodes[2], x.Nodes[1] })
	for i := range g.Nodes {
		at := string(rune('0' + i))
		but("the Kind of node "+at, func(x *api.Graph) { x.Nodes[i].Kind++ })
		but("the Kind below 0 of node "+at, func(x *api.Graph) { x.Nodes[i].Kind = -1 })
		but("the Kind far off of node "+at, func(x *api.Graph) { x.Nodes[i].Kind += 1 << 32 })
		but("the Info of node "+at, func(x *api.Graph) { x.Nodes[i].Info-- })
		but("the Info far off of node "+at, func(x *api.Graph) { x.Nodes[i].Info += math.MinInt })
		but("a Kid more of node "+at, func(x *api.Graph) { x.Nodes[i].Kids = append(x.Nodes[i].Kids, -1) })
		but("a word more of node "+at, func(x *api.Graph) { x.Nodes[i].Nons = append(x.Nodes[i].Nons, 0) })
		for j, k := range g.Nodes[i].Kids {
			but("a Kid of node "+at+string(rune('a'+j)), func(x *api.Graph) { x.Nodes[i].Kids[j] = (k + 1) % len(x.Nodes) })
			but("a Kid that is no node's where it was one's, or the other way, of node "+at+string(rune('a'+j)), func(x *api.Graph) {
				if x.Nodes[i].Kids[j] = 0; node(g, k) {
					x.Nodes[i].Kids[j] = 4
				}
			})
			but("a Kid fewer of node "+at+string(rune('a'+j)), func(x *api.Graph) { x.Nodes[i].Kids = slices.Delete(x.Nodes[i].Kids, j, j+1) })
		}
		for j := range g.Nodes[i].Nons {
			but("a word of node "+at+string(rune('a'+j)), func(x *api.Graph) { x.Nodes[i].Nons[j]++ })
			but("a high bit of a word of node "+at+string(rune('a'+j)), func(x *api.Graph) { x.Nodes[i].Nons[j] ^= 1 << 63 })
			but("a word fewer of node "+at+string(rune('a'+j)), func(x *api.Graph) { x.Nodes[i].Nons = slices.Delete(x.Nodes[i].Nons, j, j+1) })
		}
	}
	return l
}

// checkSame holds Same of two graphs to what is wanted, both ways round.
func checkSame(t *testing.T, what string, a, b api.Graph, want bool) {
	t.Helper()
	x, y := handed(a), handed(b)
	if graph.Same(x, y) != want || graph.Same(y, x) != want || ruleSame(a, b) != want {
		t.Errorf("%s: Same of %v and %v: %t, %t; want %t", what, a, b, graph.Same(x, y), graph.Same(y, x), want)
	}
	if !untouched(x, a) || !untouched(y, b) {
		t.Errorf("%s: Same of %v and %v: what was handed in is changed", what, a, b)
	}
}

func TestSameOfGraphsThatPartInOneThing(t *testing.T) {
	g := of(roots(0, 3, -1), con(5, 1, 2, 3), num(6), num(7), api.Node{Kind: api.KThunk, Info: 2, Nons: []uint64{4, 1 << 40}, Kids: []int{-1, 0}})
	checkSame(t, "a graph and itself", g, g, true)
	all := spoiled(g)
	for what, x := range all {
		checkSame(t, what, g, x, false)
		checkSame(t, what+" and itself", x, x, true)
		// Where one thing alone is another way round, two of these are not the same either.
		for other, y := range all {
			if graph.Same(x, y) != ruleSame(x, y) {
				t.Errorf("Same of %v and %v: %t (%s, %s)", x, y, graph.Same(x, y), what, other)
			}
		}
	}
}

func TestSameOfNumbersThatAreNone(t *testing.T) {
	with := func(n, k int) api.Graph { return of(roots(0, n), con(5, k, 1), num(6)) }
	l := noNodes(2)
	for _, n := range l {
		for _, k := range l {
			checkSame(t, "numbers that are none", with(n, k), with(-1, -1), true)
			checkSame(t, "numbers that are none", with(n, k), with(k, n), true)
			checkSame(t, "a root that is one", with(n, k), with(1, k), false)
			checkSame(t, "a Kid that is one", with(n, k), with(n, 0), false)
		}
	}
	// A number that is a node's in one of them alone.
	checkSame(t, "a node more", of(roots(1), num(6)), of(roots(1), num(6), num(6)), false)
	checkSame(t, "no nodes", of(roots(1, 7)), of(roots(-1, math.MaxInt)), true)
	checkSame(t, "no nodes, and one", of(roots(0)), of(roots(0), num(6)), false)
}

func TestSameOfListsThatAreNilOrEmpty(t *testing.T) {
	a := api.Graph{Nodes: []api.Node{{Kind: 1}}}
	b := api.Graph{Roots: []int{}, Nodes: []api.Node{{Kind: 1, Nons: []uint64{}, Kids: []int{}}}}
	if !graph.Same(a, b) || !graph.Same(b, a) || !graph.Same(api.Graph{}, api.Graph{Roots: []int{}, Nodes: []api.Node{}}) {
		t.Error("nil and empty lists are not the same")
	}
	// Same asks not which nodes are reached, nor by which number.
	checkSame(t, "nodes in another order", of(roots(0, 1), num(6), num(7)), of(roots(1, 0), num(7), num(6)), false)
	checkSame(t, "a node that no root reaches", of(roots(0), num(6), num(7)), of(roots(0), num(6)), false)
}
