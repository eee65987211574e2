package graph_test

import (
	"slices"
	"testing"

	"midden/api"
	"midden/graph"
	"midden/heap"
)

// Graphs and heaps as great as the document allows (R1 to R6): long rows, which must neither be gone into by calls within calls without end, nor be gone through again for each node of theirs.

func checkGreat(t *testing.T, what string, got, wanted api.Graph) {
	t.Helper()
	if len(got.Nodes) != len(wanted.Nodes) {
		t.Errorf("%s: %d nodes; want %d", what, len(got.Nodes), len(wanted.Nodes))
		return
	}
	want(t, what, got, wanted)
}

// filled fills the greatest heap with closures that each have one pointer, to the one ahead of it, and tells the last.
func filled(t *testing.T, x api.Head, nons []uint64) (*heap.Heap, int, int) {
	t.Helper()
	h := made(t, 1, 1, api.MaxBlocks)
	last := layCon(t, h, x.Info)
	for many := 0; ; many++ {
		at, e := h.Lay(x, slices.Repeat([]int{last}, x.Ptrs), nons)
		if e == api.ErrFull {
			return h, last, many
		}
		expect(t, "Lay", e, api.OK)
		last = at
	}
}

func TestDecodeOfTheLongestRow(t *testing.T) {
	for _, x := range []struct {
		head api.Head
		nons []uint64
	}{
		{api.Head{Kind: api.KRef, Ptrs: 1}, nil},
		{api.Head{Kind: api.KInd, Ptrs: 1}, nil},
		{api.Head{Kind: api.KSel, Ptrs: 1, Nons: 1}, []uint64{0}},
		{api.Head{Kind: api.KCon, Ptrs: 8}, nil},
		{api.Head{Kind: api.KArr, Ptrs: 1024}, nil},
	} {
		h, last, many := filled(t, x.head, x.nons)
		g := of(roots(0, 0))
		for n := range many {
			g.Nodes = append(g.Nodes, api.Node{Kind: x.head.Kind, Nons: x.nons, Kids: slices.Repeat([]int{n + 1}, x.head.Ptrs)})
		}
		g.Nodes = append(g.Nodes, con(0))
		got, e := graph.Decode(h, []int{last, last})
		expect(t, "Decode", e, api.OK)
		checkGreat(t, "a row", got, g)
		if n := graph.Words(got); n != h.Used(0) {
			t.Errorf("Words %d; want %d", n, h.Used(0))
		}
		checkGreat(t, "Norm of a row", graph.Norm(got), g)
		if !graph.Same(got, g) {
			t.Error("a row is not the same as itself")
		}
		short := graph.Short(got)
		if x.head.Kind == api.KInd {
			g = of(roots(0, 0), con(0))
		}
		checkGreat(t, "Short of a row", short, g)
		got, e = graph.Decode(h, []int{last, 0, last + 1})
		expect(t, "Decode of no address behind it", e, api.ErrRange)
		want(t, "an error", got, api.Graph{})
	}
}

// A ring of as many variables as there is room for, met from anywhere.
func TestDecodeOfTheGreatestRing(t *testing.T) {
	h, last, many := filled(t, api.Head{Kind: api.KRef, Ptrs: 1}, nil)
	all := h.Closures(0, 0)[1:]
	expect(t, "Set", h.Set(all[0], 0, last), api.OK)
	for _, at := range []int{all[0], last, all[many/2]} {
		got, e := graph.Decode(h, []int{at})
		expect(t, "Decode", e, api.OK)
		g := of(roots(0))
		for n := range many {
			g.Nodes = append(g.Nodes, api.Node{Kind: api.KRef, Kids: []int{(n + 1) % many}})
		}
		checkGreat(t, "a ring", got, g)
		checkGreat(t, "Short of a ring", graph.Short(got), g)
	}
}

// All closures of the greatest heap as roots, the last one first, and each twice.
func TestDecodeOfAllAsRoots(t *testing.T) {
	h, _, _ := filled(t, api.Head{Kind: api.KThunk, Info: 3, Ptrs: 1}, nil)
	all := h.Closures(0, 0)
	l := slices.Concat(all, all)
	got, e := graph.Decode(h, l)
	expect(t, "Decode", e, api.OK)
	for n, k := range got.Roots {
		if k != n%len(all) {
			t.Fatalf("the root %d is the node %d", n, k)
		}
	}
	slices.Reverse(all)
	got, e = graph.Decode(h, all)
	expect(t, "Decode", e, api.OK)
	if len(got.Nodes) != len(all) || got.Roots[len(all)-1] != len(all)-1 {
		t.Errorf("%d nodes of %d closures", len(got.Nodes), len(all))
	}
}

// many is how many nodes these graphs have: more than any heap's closures.
const many = 1 << 18

func TestShortOfGreatRows(t *testing.T) {
	row := func(x func(n int) api.Node, behind ...api.Node) api.Graph {
		g := of(roots(0, many-1, many/2))
		for n := range many {
			g.Nodes = append(g.Nodes, x(n))
		}
		g.Nodes = append(g.Nodes, behind...)
		return g
	}
	next := func(n int) api.Node { return ind(n + 1) }
	want(t, "KInds to a number", graph.Short(row(next, num(5))), of(roots(0, 0, 0), num(5)))
	want(t, "KInds to one that has none", graph.Short(row(next, ind(-1))), of(roots(0, 0, 0), ind(-1)))
	want(t, "KInds to nothing", graph.Short(row(next)), of(roots(0, 0, 0), ind(-1)))
	want(t, "KInds in a ring", graph.Short(row(next, ind(0))), of(roots(-1, -1, -1)))
	want(t, "KInds into a ring of one", graph.Short(row(next, ind(many))), of(roots(-1, -1, -1)))
	want(t, "KInds backwards", graph.Short(row(func(n int) api.Node { return ind(n - 1) })), of(roots(0, 0, 0), ind(-1)))
	// All of them as roots: what is lost or leads nowhere is looked for but once.
	for _, x := range []struct {
		last api.Node
		end  int
	}{{num(5), 0}, {ind(-1), 0}, {ind(0), -1}, {ind(many), -1}} {
		g := row(next, x.last)
		g.Roots = make([]int, many+1)
		for n := range g.Roots {
			g.Roots[n] = many - n
		}
		if y := graph.Short(g); len(y.Nodes) != 1+x.end || !slices.Equal(y.Roots, slices.Repeat([]int{x.end}, many+1)) {
			t.Errorf("KInds to %v: %d nodes, roots %v and on", x.last, len(y.Nodes), y.Roots[:3])
		}
	}
	ask := func(n int) api.Node { return sel(4, 0, n+1) }
	want(t, "KSels of a KCon of itself", graph.Short(row(ask, con(4, many))), of(roots(0, 0, 0), con(4, 0)))
	// The last one leads to what is lost; the one ahead of it has a Kid that is none, and all others stay as they are.
	stay := row(ask)
	stay.Roots[1] = -1
	stay.Nodes[many-2].Kids[0] = -1
	checkGreat(t, "KSels of a KCon whose field is lost", graph.Short(row(ask, con(4, many+1), ind(many+1))), graph.Norm(stay))
	checkGreat(t, "KSels to a KSel of itself", graph.Short(row(ask, sel(4, 0, many))), graph.Norm(row(ask, sel(4, 0, many))))
	checkGreat(t, "KSels in a ring", graph.Short(row(ask, sel(4, 0, 0))), graph.Norm(row(ask, sel(4, 0, 0))))
}

// A KSel each of whose KCons is come to late: by KSels, each of which is of another one.
func TestShortOfGreatRowsOfKCons(t *testing.T) {
	g := of(roots(0))
	for n := range many / 2 {
		// The KSel asks for field 1 of the KCon behind it, which is a KInd's number in the next one's field 0.
		g.Nodes = append(g.Nodes, sel(4, 1, 2*n+1), con(4, 2*n, 2*n+2))
	}
	g.Nodes = append(g.Nodes, num(5))
	want(t, "a KSel to a KSel to a KSel", graph.Short(g), of(roots(0), num(5)))
	g.Roots[0] = 1
	want(t, "from a KCon", graph.Short(g), of(roots(0), con(4, 1, 1), num(5)))
	all := make([]int, many)
	for n := range all {
		all[n] = n
	}
	g.Roots = all
	x := graph.Short(g)
	if len(x.Nodes) != many/2+1 || len(x.Roots) != many || x.Roots[0] != 0 || x.Roots[many-2] != 0 || x.Roots[many-1] != many/2 {
		t.Errorf("%d nodes, %d roots", len(x.Nodes), len(x.Roots))
	}
}

// A graph with a way for each of two Kids at each node: each node is met but once.
func TestGraphsWithManyWays(t *testing.T) {
	const deep = 1 << 16
	g := of(roots(0))
	for n := range deep {
		g.Nodes = append(g.Nodes, con(1, 2*n+1, 2*n+2), ind(2*n+2))
	}
	g.Nodes = append(g.Nodes, num(5))
	x := graph.Norm(g)
	if len(x.Nodes) != 2*deep+1 || x.Nodes[2*deep].Kind != api.KInt {
		t.Errorf("Norm has %d nodes", len(x.Nodes))
	}
	y := graph.Short(g)
	if len(y.Nodes) != deep+1 || y.Nodes[deep].Kind != api.KInt || !slices.Equal(y.Nodes[7].Kids, []int{8, 8}) {
		t.Errorf("Short has %d nodes", len(y.Nodes))
	}
}

// Long lists of roots, of Kids and of words.
func TestGraphsWithLongLists(t *testing.T) {
	l := slices.Repeat([]int{1, 0, -1, 2}, 1<<18)
	g := of(l, con(1, l...), num(7), api.Node{Kind: api.KInd, Nons: make([]uint64, 1<<20), Kids: l})
	x := graph.Norm(g)
	if len(x.Nodes) != 3 || x.Roots[0] != 0 || x.Roots[1] != 1 || x.Nodes[1].Kids[1] != 1 || x.Nodes[1].Kids[3] != 2 || len(x.Nodes[2].Nons) != 1<<20 {
		t.Errorf("Norm: %d nodes", len(x.Nodes))
	}
	if graph.Words(x) != 1<<22-1<<20+2*1+1+1 || graph.Words(g) != graph.Words(x) {
		t.Errorf("Words: %d", graph.Words(x))
	}
	y := graph.Short(g)
	if len(y.Nodes) != 2 || !slices.Equal(y.Roots[:4], []int{0, 1, -1, 0}) || !slices.Equal(y.Nodes[1].Kids[1<<20-4:], []int{0, 1, -1, 0}) {
		t.Errorf("Short: %d nodes, %v", len(y.Nodes), y.Roots[:4])
	}
	if !graph.Same(g, g) || graph.Same(g, x) {
		t.Error("Same of long lists")
	}
	z := handed(g)
	z.Nodes[2].Nons[1<<20-1] = 1
	if graph.Same(g, z) {
		t.Error("Same does not look at the last word")
	}
}
