package graph_test

import (
	"fmt"
	"slices"
	"testing"

	"midden/api"
	"midden/graph"
	"midden/heap"
)

// The chapter's words written out again, one behind the other, with no thought of how long they take.

const lost = -2

func node(g api.Graph, n int) bool { return n >= 0 && n < len(g.Nodes) }

// cloned is a graph with lists of its own, in which all that is no node's number is -1.
func cloned(g api.Graph) api.Graph {
	numbers := func(l []int) []int {
		to := make([]int, len(l))
		for i, n := range l {
			to[i] = n
			if !node(g, n) {
				to[i] = -1
			}
		}
		return to
	}
	x := api.Graph{Roots: numbers(g.Roots)}
	for _, n := range g.Nodes {
		x.Nodes = append(x.Nodes, api.Node{Kind: n.Kind, Info: n.Info, Nons: slices.Clone(n.Nons), Kids: numbers(n.Kids)})
	}
	return x
}

// eachNumber goes over all roots and Kids.
func eachNumber(g api.Graph, do func(n *int)) {
	for i := range g.Roots {
		do(&g.Roots[i])
	}
	for i := range g.Nodes {
		for j := range g.Nodes[i].Kids {
			do(&g.Nodes[i].Kids[j])
		}
	}
}

// ruleNorm is Norm.
func ruleNorm(g api.Graph) api.Graph {
	old := cloned(g)
	numbers := map[int]int{}
	var x api.Graph
	var meet func(n int)
	meet = func(n int) {
		if _, met := numbers[n]; met || !node(old, n) {
			return
		}
		numbers[n] = len(x.Nodes)
		x.Nodes = append(x.Nodes, old.Nodes[n])
		for _, k := range old.Nodes[n].Kids {
			meet(k)
		}
	}
	for _, n := range old.Roots {
		meet(n)
	}
	x.Roots = old.Roots
	eachNumber(x, func(n *int) {
		if k, met := numbers[*n]; met {
			*n = k
		} else {
			*n = -1
		}
	})
	return x
}

// ruleLeads tells where a node leads: to a node's number, to lost, or nowhere, which is -1.
func ruleLeads(g api.Graph, n int) int {
	x := g.Nodes[n]
	if len(x.Kids) == 0 {
		return -1
	}
	kid := x.Kids[0]
	switch x.Kind {
	case api.KInd:
		return kid
	case api.KSel:
		if kid < 0 || len(x.Nons) == 0 {
			return -1
		}
		c := g.Nodes[kid]
		if c.Kind != api.KCon || c.Info != x.Info || x.Nons[0] >= uint64(len(c.Kids)) {
			return -1
		}
		return c.Kids[x.Nons[0]]
	}
	return -1
}

// ruleGoesTo tells what is met by going on from a node till one leads nowhere.
func ruleGoesTo(g api.Graph, n int) int {
	met := map[int]int{}
	for {
		if met[n]++; met[n] > 1 {
			return lost
		}
		to := ruleLeads(g, n)
		switch to {
		case lost:
			return lost
		case -1:
			return n
		}
		n = to
	}
}

// ruleShort is Short. It also tells how many times there were.
func ruleShort(g api.Graph) (api.Graph, int) {
	g = cloned(g)
	for times := 0; ; times++ {
		ends := make([]int, len(g.Nodes))
		for n := range ends {
			ends[n] = ruleGoesTo(g, n)
		}
		changed := false
		eachNumber(g, func(n *int) {
			if *n >= 0 && ends[*n] != *n {
				*n, changed = ends[*n], true
			}
		})
		if !changed {
			return ruleNorm(g), times
		}
	}
}

// ruleDecode is Decode of a heap that is not nil.
func ruleDecode(h *heap.Heap, roots []int) (api.Graph, api.Errno) {
	numbers := map[int]int{}
	var x api.Graph
	var meet func(at int) api.Errno
	meet = func(at int) api.Errno {
		if _, met := numbers[at]; met || at == 0 {
			return api.OK
		}
		head, e := h.Head(at)
		if e != api.OK {
			return e
		}
		mine := len(x.Nodes)
		numbers[at] = mine
		x.Nodes = append(x.Nodes, api.Node{Kind: head.Kind, Info: head.Info})
		for i := range head.Nons {
			w, _ := h.Non(at, i)
			x.Nodes[mine].Nons = append(x.Nodes[mine].Nons, w)
		}
		for i := range head.Ptrs {
			p, _ := h.Ptr(at, i)
			if e := meet(p); e != api.OK {
				return e
			}
			x.Nodes[mine].Kids = append(x.Nodes[mine].Kids, p)
		}
		return api.OK
	}
	for _, at := range roots {
		if e := meet(at); e != api.OK {
			return api.Graph{}, e
		}
	}
	x.Roots = slices.Clone(roots)
	eachNumber(x, func(n *int) {
		if k, met := numbers[*n]; met {
			*n = k
		} else {
			*n = -1
		}
	})
	return x, api.OK
}

// equal tells whether two graphs have the same numbers everywhere, -1 being no other number than -1.
func equal(a, b api.Graph) bool {
	return slices.Equal(a.Roots, b.Roots) && slices.EqualFunc(a.Nodes, b.Nodes, func(x, y api.Node) bool {
		return x.Kind == y.Kind && x.Info == y.Info && slices.Equal(x.Nons, y.Nons) && slices.Equal(x.Kids, y.Kids)
	})
}

// ruleSame is Same.
func ruleSame(a, b api.Graph) bool { return equal(cloned(a), cloned(b)) }

// ruleWords is Words.
func ruleWords(g api.Graph) int {
	n := 0
	for _, x := range g.Nodes {
		n++
		for range x.Kids {
			n++
		}
		for range x.Nons {
			n++
		}
	}
	return n
}

// told is a graph's text, as far as it can be read.
func told(g api.Graph) string { return fmt.Sprintf("%.600s", fmt.Sprint(g)) }

func expect(t *testing.T, what string, got, want api.Errno) {
	t.Helper()
	if got != want {
		t.Fatalf("%s: error %d; want %d", what, int(got), int(want))
	}
}

func want(t *testing.T, what string, got, want api.Graph) {
	t.Helper()
	if !equal(got, want) {
		t.Errorf("%s: %s; want %s", what, told(got), told(want))
	}
}

// spare is what stands behind the end of each list that is handed in.
const spare = 0x5a5a5a

// roomy gives a list some room beyond its end.
func roomy[T int | uint64](l []T) []T {
	to := append(make([]T, 0, len(l)+3), l...)
	for i := range to[len(l):cap(to)] {
		to[:cap(to)][len(l)+i] = spare
	}
	return to
}

// handed is a graph that is handed in: with lists of its own, and room beyond the end of each.
func handed(g api.Graph) api.Graph {
	x := api.Graph{Roots: roomy(g.Roots), Nodes: make([]api.Node, 0, len(g.Nodes)+1)}
	for _, n := range g.Nodes {
		x.Nodes = append(x.Nodes, api.Node{Kind: n.Kind, Info: n.Info, Nons: roomy(n.Nons), Kids: roomy(n.Kids)})
	}
	x.Nodes[:cap(x.Nodes)][len(x.Nodes)].Kind = spare
	return x
}

// untouched tells whether what was handed in is as it was, its room too.
func untouched(x, was api.Graph) bool {
	full := func(g api.Graph) api.Graph {
		f := api.Graph{Roots: g.Roots[:cap(g.Roots)]}
		for _, n := range g.Nodes[:cap(g.Nodes)] {
			f.Nodes = append(f.Nodes, api.Node{Kind: n.Kind, Info: n.Info, Nons: n.Nons[:cap(n.Nons)], Kids: n.Kids[:cap(n.Kids)]})
		}
		return f
	}
	return equal(x, was) && equal(full(x), full(handed(was)))
}

// answered does a call of one graph, and looks whether what is handed in stays, and what comes is the caller's own.
func answered(t *testing.T, what string, g api.Graph, call func(g api.Graph) api.Graph) api.Graph {
	t.Helper()
	x := handed(g)
	y := call(x)
	if !untouched(x, g) {
		t.Errorf("%s of %s: what was handed in is changed", what, told(g))
	}
	was := cloned(y)
	ownLists(t, what, y)
	if !untouched(x, g) {
		t.Errorf("%s of %s: what is answered shares what was handed in", what, told(g))
	}
	return was
}

// ownLists writes into all that was answered, list by list, and looks whether any other list has it too. What was answered is spoiled behind it.
func ownLists(t *testing.T, what string, g api.Graph) {
	t.Helper()
	mark := 0
	fill := func(l []int) {
		mark++
		for i := range l[:cap(l)] {
			l[:cap(l)][i] = mark
		}
	}
	fill(g.Roots)
	for _, n := range g.Nodes {
		fill(n.Kids)
		for i := range n.Nons[:cap(n.Nons)] {
			n.Nons[:cap(n.Nons)][i] = uint64(mark)
		}
	}
	mark = 0
	check := func(l []int) {
		mark++
		for _, n := range l[:cap(l)] {
			if n != mark {
				t.Errorf("%s: two lists that were answered share what they have", what)
			}
		}
	}
	check(g.Roots)
	for _, n := range g.Nodes {
		check(n.Kids)
		for _, w := range n.Nons[:cap(n.Nons)] {
			if w != uint64(mark) {
				t.Errorf("%s: two lists of words that were answered share what they have", what)
			}
		}
	}
}

// checkNorm holds Norm to the chapter.
func checkNorm(t *testing.T, what string, g api.Graph) api.Graph {
	t.Helper()
	x := answered(t, what+": Norm", g, graph.Norm)
	want(t, what+": Norm", x, ruleNorm(g))
	return x
}

// checkShort holds Short to the chapter, and to what follows from it.
func checkShort(t *testing.T, what string, g api.Graph) api.Graph {
	t.Helper()
	x := answered(t, what+": Short", g, graph.Short)
	y, _ := ruleShort(g)
	want(t, what+": Short", x, y)
	want(t, what+": Short of Short", graph.Short(x), x)
	want(t, what+": Norm of Short", graph.Norm(x), x)
	eachNumber(x, func(n *int) {
		if *n != -1 && ruleLeads(x, *n) != -1 {
			t.Errorf("%s: Short: the node %d is on the way: %s", what, *n, told(x))
		}
	})
	return x
}
