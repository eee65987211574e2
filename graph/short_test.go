package graph_test

import (
	"math"
	"slices"
	"testing"

	"midden/api"
	"midden/graph"
)

// P19.3

type row struct {
	what      string
	got, want api.Graph
}

func checkRows(t *testing.T, l []row) {
	t.Helper()
	for _, x := range l {
		want(t, x.what, checkShort(t, x.what, x.got), x.want)
	}
}

func TestExamplesOfTheChapter(t *testing.T) {
	checkRows(t, []row{
		{"a root at a KInd", of(roots(0), ind(1), num(5)), of(roots(0), num(5))},
		{"a KSel of field 1", of(roots(0), sel(4, 1, 1), con(4, 2, 3), num(6), num(7)), of(roots(0), num(7))},
	})
}

func TestShortWhereNothingIsOnTheWay(t *testing.T) {
	checkRows(t, []row{
		{"nothing", api.Graph{}, api.Graph{}},
		{"no roots", of(nil, ind(1), num(5)), api.Graph{}},
		{"roots that are none", of(roots(-1, 2, 0, -2), con(1, 1), num(5)), of(roots(-1, -1, 0, -1), con(1, 1), num(5))},
		{"no node", of(roots(0, 0)), of(roots(-1, -1))},
		{"numbered anew", of(roots(2), num(5), num(6), con(3, 1, 0)), of(roots(0), con(3, 1, 2), num(6), num(5))},
		{"a ring of others", of(roots(0), con(1, 1), con(2, 0)), of(roots(0), con(1, 1), con(2, 0))},
	})
	for _, x := range oddNodes() {
		if g := of(roots(1, 0), num(3), x); x.Kind != api.KInd && x.Kind != api.KSel {
			want(t, "an odd node", checkShort(t, "an odd node", g), ruleNorm(g))
		}
	}
}

// A node of any kind with a Kid leads nowhere, if it is neither KInd nor KSel.
func TestShortOfOtherKinds(t *testing.T) {
	for kind := -3; kind < 20; kind++ {
		x := api.Node{Kind: kind, Info: 4, Nons: []uint64{0}, Kids: []int{1}}
		got := checkShort(t, "kinds", of(roots(0), x, con(4, 2), num(9)))
		stays := len(got.Nodes) == 3 && got.Nodes[0].Kind == kind
		if stays != (kind != api.KInd && kind != api.KSel) {
			t.Errorf("a node of kind %d: %v", kind, got)
		}
	}
}

func TestShortOfInds(t *testing.T) {
	checkRows(t, []row{
		{"a Kid at a KInd", of(roots(0), con(1, 1, 2), ind(2), num(5)), of(roots(0), con(1, 1, 1), num(5))},
		{"three in a row", of(roots(0, 2, 1), ind(1), ind(2), ind(3), num(5)), of(roots(0, 0, 0), num(5))},
		{"three in a row, backwards", of(roots(3), num(5), ind(0), ind(1), ind(2)), of(roots(0), num(5))},
		{"to itself", of(roots(0), ind(0)), of(roots(-1))},
		{"a ring of two", of(roots(0, 1), ind(1), ind(0)), of(roots(-1, -1))},
		{"a ring of three, and a KInd into it", of(roots(3, 0, 4, 2), ind(1), ind(2), ind(0), ind(1), num(5)), of(roots(-1, -1, 0, -1), num(5))},
		{"two into a ring", of(roots(2, 3), ind(0), num(5), ind(0), ind(2)), of(roots(-1, -1))},
		{"a ring in a KCon", of(roots(0), con(1, 1, 2, 1), ind(1), num(5)), of(roots(0), con(1, -1, 1, -1), num(5))},
		{"a Kid that is none", of(roots(0), ind(-1)), of(roots(0), ind(-1))},
		{"a Kid beyond", of(roots(0), ind(1)), of(roots(0), ind(-1))},
		{"a row to one whose Kid is none", of(roots(0), ind(1), ind(2), ind(3)), of(roots(0), ind(-1))},
		{"no Kid", of(roots(0, 1), ind(), ind(0)), of(roots(0, 0), ind())},
		{"several Kids", of(roots(0), ind(1, 2), num(5), num(6)), of(roots(0), num(5))},
		{"several Kids, the first none", of(roots(0), ind(-1, 1), num(5)), of(roots(0), ind(-1, 1), num(5))},
		{"several Kids, the first the KInd", of(roots(0), ind(0, 1), num(5)), of(roots(-1))},
		{"with words and an Info", of(roots(0), api.Node{Kind: api.KInd, Info: 9, Nons: []uint64{3, 4}, Kids: []int{1}}, num(5)), of(roots(0), num(5))},
		{"two KInds to one", of(roots(0, 1), ind(2), ind(2), con(1, 0, 1)), of(roots(0, 0), con(1, 0, 0))},
	})
}

func TestShortOfSels(t *testing.T) {
	a, b := num(7), num(8)
	checkRows(t, []row{
		{"field 0", of(roots(0), sel(4, 0, 1), con(4, 2, 3), a, b), of(roots(0), a)},
		{"one beyond", of(roots(0), sel(4, 2, 1), con(4, 2, 3), a, b), of(roots(0), sel(4, 2, 1), con(4, 2, 3), a, b)},
		{"another Info", of(roots(0), sel(4, 0, 1), con(5, 2), a), of(roots(0), sel(4, 0, 1), con(5, 2), a)},
		{"Infos alike in 32 bits", of(roots(0), sel(4, 0, 1), con(1<<32+4, 2), a), of(roots(0), sel(4, 0, 1), con(1<<32+4, 2), a)},
		{"Infos below 0", of(roots(0), sel(-4, 0, 1), con(-4, 2), a), of(roots(0), a)},
		{"no word", of(roots(0), api.Node{Kind: api.KSel, Info: 4, Kids: []int{1}}, con(4, 2), a), of(roots(0), api.Node{Kind: api.KSel, Info: 4, Kids: []int{1}}, con(4, 2), a)},
		{"two words", of(roots(0), api.Node{Kind: api.KSel, Info: 4, Nons: []uint64{1, 0}, Kids: []int{1}}, con(4, 2, 3), a, b), of(roots(0), b)},
		{"a KCon of nothing", of(roots(0), sel(4, 0, 1), con(4)), of(roots(0), sel(4, 0, 1), con(4))},
		{"no Kid", of(roots(0), sel(4, 0)), of(roots(0), sel(4, 0))},
		{"a Kid that is none", of(roots(0), sel(4, 0, -1)), of(roots(0), sel(4, 0, -1))},
		{"several Kids", of(roots(0), sel(4, 0, 1, 2), con(4, 3), con(4, 4), a, b), of(roots(0), a)},
		{"several Kids, the first none", of(roots(0), sel(4, 0, -1, 1), con(4, 2), a), of(roots(0), sel(4, 0, -1, 1), con(4, 2), a)},
		{"a field that is none", of(roots(0), sel(4, 1, 1), con(4, 2, -1), a), of(roots(0), sel(4, 1, 1), con(4, 2, -1), a)},
		{"a field beyond all nodes", of(roots(0), sel(4, 1, 1), con(4, 2, 3), a), of(roots(0), sel(4, 1, 1), con(4, 2, -1), a)},
		{"of another kind", of(roots(0), sel(4, 0, 1), api.Node{Kind: api.KFun, Info: 4, Kids: []int{2}}, a), of(roots(0), sel(4, 0, 1), api.Node{Kind: api.KFun, Info: 4, Kids: []int{2}}, a)},
		{"of itself", of(roots(0), sel(4, 0, 0)), of(roots(0), sel(4, 0, 0))},
		{"of one another", of(roots(0), sel(4, 0, 1), sel(5, 0, 0)), of(roots(0), sel(4, 0, 1), sel(5, 0, 0))},
		{"the KCon itself", of(roots(0), sel(4, 0, 1), con(4, 1)), of(roots(0), con(4, 0))},
		{"itself in the KCon", of(roots(0), sel(4, 0, 1), con(4, 0)), of(roots(-1))},
		{"itself in the KCon that is a root", of(roots(1), sel(4, 0, 1), con(4, 0)), of(roots(0), con(4, -1))},
		{"two in one KCon, each the other one", of(roots(2), sel(4, 1, 2), sel(4, 0, 2), con(4, 0, 1)), of(roots(0), con(4, -1, -1))},
	})
	con8 := con(4, 2, 3, 4, 5, 6, 7, 8, 9)
	for field := range uint64(8) {
		g := of(roots(0), sel(4, field, 1), con8, num(0), num(1), num(2), num(3), num(4), num(5), num(6), num(7))
		want(t, "each field", checkShort(t, "each field", g), of(roots(0), num(field)))
	}
	for _, field := range []uint64{8, 9, 1 << 8, 1 << 16, 1 << 31, 1 << 32, 1<<32 + 1, 1 << 63, math.MaxUint64, math.MaxInt64} {
		g := of(roots(0), sel(4, field, 1), con8, num(0), num(1), num(2), num(3), num(4), num(5), num(6), num(7))
		want(t, "no field", checkShort(t, "no field", g), g)
	}
}

func TestShortOfOneBehindAnother(t *testing.T) {
	a, b := num(7), num(8)
	checkRows(t, []row{
		{"a KSel of a KInd", of(roots(0), sel(4, 1, 1), ind(2), con(4, 3, 4), a, b), of(roots(0), b)},
		{"a KSel of KInds in a row", of(roots(0), sel(4, 1, 1), ind(2), ind(3), con(4, 4, 5), a, b), of(roots(0), b)},
		{"a KSel of a KSel", of(roots(0), sel(4, 0, 1), sel(5, 0, 2), con(5, 3), con(4, 4), a), of(roots(0), a)},
		{"a KSel of a KSel that leads nowhere", of(roots(0), sel(4, 0, 1), sel(5, 1, 2), con(5, 3), con(4, 4), a), of(roots(0), sel(4, 0, 1), sel(5, 1, 2), con(5, 3), con(4, 4), a)},
		{"a KInd in a field", of(roots(0), sel(4, 0, 1), con(4, 2), ind(3), a), of(roots(0), a)},
		{"a KSel in a field", of(roots(0), sel(4, 0, 1), con(4, 2), sel(5, 0, 3), con(5, 4), a), of(roots(0), a)},
		{"a KSel in a field, that leads nowhere", of(roots(0), sel(4, 0, 1), con(4, 2), sel(5, 0, 3), con(6, 4), a), of(roots(0), sel(5, 0, 1), con(6, 2), a)},
		{"a KSel whose Kid leads to it", of(roots(0), sel(4, 0, 1), ind(0)), of(roots(0), sel(4, 0, 0))},
		{"a KSel whose Kid leads to it, from there", of(roots(1), sel(4, 0, 1), ind(2), ind(0)), of(roots(0), sel(4, 0, 0))},
		{"a KSel whose Kid leads to it by a field", of(roots(0), sel(4, 0, 1), sel(5, 0, 2), con(5, 0)), of(roots(0), sel(4, 0, 0))},
		{"a KSel whose Kid leads to it by a field, from the KCon", of(roots(2, 1), sel(4, 0, 1), sel(5, 0, 2), con(5, 0)), of(roots(0, 1), con(5, 1), sel(4, 0, 1))},
		{"a KSel whose Kid is lost", of(roots(0), sel(4, 0, 1), ind(1)), of(roots(0), sel(4, 0, -1))},
		{"a KSel whose Kid is lost later", of(roots(0), sel(4, 0, 1), ind(2), sel(5, 0, 3), con(5, 1)), of(roots(0), sel(4, 0, -1))},
		{"a KInd to a KSel whose Kid is lost", of(roots(0), ind(1), sel(4, 0, 2), ind(2)), of(roots(0), sel(4, 0, -1))},
		{"a field that is lost", of(roots(0), sel(4, 0, 1), con(4, 2, 3), ind(2), a), of(roots(-1))},
		{"a KCon whose Kid is lost, and a KSel of it", of(roots(1, 0), sel(4, 0, 1), con(4, 2, 3), ind(2), a), of(roots(0, -1), con(4, -1, 1), a)},
		{"a KSel of the other field", of(roots(0), sel(4, 1, 1), con(4, 2, 3), ind(2), a), of(roots(0), a)},
		{"what leads to what is lost, late", of(roots(0), sel(4, 0, 1), sel(4, 0, 2), sel(4, 0, 3), con(4, 3, 4), ind(4)), of(roots(0), con(4, 0, -1))},
		{"a ring through KInds and fields", of(roots(0, 1, 3), ind(1), sel(4, 0, 2), con(4, 3), ind(0)), of(roots(-1, -1, -1))},
		{"a ring that comes together late", of(roots(0, 1, 2, 3), sel(4, 0, 1), sel(5, 0, 2), con(5, 3), con(4, 0)), of(roots(-1, 0, 1, 0), con(4, -1), con(5, 0))},
		{"into a field that is a KInd to none", of(roots(0), sel(4, 0, 1), con(4, 2), ind(-1)), of(roots(0), ind(-1))},
		{"a KSel of a KInd to none", of(roots(0), sel(4, 0, 1), ind(-1)), of(roots(0), sel(4, 0, 1), ind(-1))},
	})
}

// sels is a graph whose root is the first of some KSels in a row, with other nodes behind them.
func sels(many int, others ...api.Node) api.Graph {
	g := of(roots(0))
	for n := range many {
		g.Nodes = append(g.Nodes, sel(4, 0, n+1))
	}
	g.Nodes = append(g.Nodes, others...)
	return g
}

// Rows of KSels one behind the other, for which as many times are needed as there are KSels.
func TestShortOfManyTimes(t *testing.T) {
	for many := 1; many < 30; many++ {
		g := sels(many, con(4, many))
		want(t, "of a KCon of itself", checkShort(t, "of a KCon of itself", g), of(roots(0), con(4, 0)))
		if _, times := ruleShort(g); times != many {
			t.Errorf("%d KSels of a KCon of itself take %d times", many, times)
		}
		g = sels(many, con(4, many+1, many+1), con(4, many))
		what := "of a KCon and another one of one another"
		if many%2 == 0 {
			want(t, what, checkShort(t, what, g), of(roots(0), con(4, 1, 1), con(4, 0)))
		} else {
			want(t, what, checkShort(t, what, g), of(roots(0), con(4, 1), con(4, 0, 0)))
		}
		g = sels(many, con(5, many))
		want(t, "of a KCon of another Info", checkShort(t, "of a KCon of another Info", g), g)
		// The last one leads to the first one, so that those ahead of it are a ring; the only one leads to itself.
		ring := of(roots(-1))
		if many > 1 {
			ring = sels(many - 1)
			ring.Nodes[many-2].Kids[0] = 0
		}
		want(t, "of a KCon of the first", checkShort(t, "of a KCon of the first", sels(many, con(4, 0))), ring)
	}
}

// A field that is met again and again on the way: what it comes to is found once, whoever asks first.
func TestShortWhereOthersAskedAlready(t *testing.T) {
	base := []api.Node{
		sel(4, 0, 1), ind(2), con(4, 3, 5), ind(4), num(7),
		sel(4, 1, 1), sel(5, 0, 7), ind(8), sel(4, 0, 9), con(4, 6),
		ind(11), ind(10), sel(4, 0, 10), ind(-1), sel(6, 0, 14),
	}
	for _, l := range permutations(5) {
		rs := make([]int, 0, 15)
		for _, n := range l {
			rs = append(rs, n*3, n*3+1, n*3+2)
		}
		checkShort(t, "asked in another order", of(rs, base...))
		for i := range base {
			checkShort(t, "asked in another order", of(rs[i:], base...))
		}
	}
}

// permutations tells all orders of the numbers below n.
func permutations(n int) [][]int {
	if n == 0 {
		return [][]int{nil}
	}
	var all [][]int
	for _, l := range permutations(n - 1) {
		for i := 0; i <= len(l); i++ {
			all = append(all, slices.Insert(slices.Clone(l), i, n-1))
		}
	}
	return all
}

// Every graph of a few nodes, each of which is a KInd, a KSel, a KCon or a number.
func TestShortOfEverySmallGraph(t *testing.T) {
	const most = 4
	for many := 1; many <= most; many++ {
		var kinds []api.Node
		for kid := -1; kid < many; kid++ {
			kinds = append(kinds, ind(kid), sel(0, 0, kid), con(0, kid))
		}
		rs := []int{0, 1, 2, 3}[:many]
		x := of(rs, slices.Repeat([]api.Node{{}}, many)...)
		many := len(kinds)
		var each func(n int)
		each = func(n int) {
			if n == len(x.Nodes) {
				y, _ := ruleShort(x)
				if got := graph.Short(x); !equal(got, y) {
					t.Fatalf("Short of %v: %v; want %v", x, got, y)
				}
				return
			}
			for i := range many {
				x.Nodes[n] = kinds[i]
				each(n + 1)
			}
		}
		each(0)
	}
}
