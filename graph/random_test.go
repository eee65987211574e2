package graph_test

import (
	"fmt"
	"math/rand/v2"
	"slices"
	"testing"

	"midden/api"
	"midden/graph"
)

// maker makes graphs and heaps by chance.
type maker struct{ *rand.Rand }

func makerOf(seed uint64) maker { return maker{rand.New(rand.NewPCG(seed, 19))} }

// number tells a node's number of so many, or now and then one that is none.
func (m maker) number(many int) int {
	if many == 0 || m.IntN(12) == 0 {
		l := noNodes(many)
		return l[m.IntN(len(l))]
	}
	return m.IntN(many)
}

func (m maker) numbers(n, many int) []int {
	var l []int
	for range n {
		l = append(l, m.number(many))
	}
	return l
}

// node makes one of a graph of so many: most are on the way, or may be.
func (m maker) node(many int) api.Node {
	info := m.IntN(2)
	switch m.IntN(9) {
	case 0, 1:
		return ind(m.numbers(1, many)...)
	case 2, 3, 4:
		return sel(info, uint64(m.IntN(3)), m.numbers(1, many)...)
	case 5, 6, 7:
		return con(info, m.numbers(m.IntN(4), many)...)
	}
	x := api.Node{Kind: m.IntN(15) - 1, Info: m.IntN(3) - 1, Kids: m.numbers(m.IntN(4), many)}
	for range m.IntN(3) {
		x.Nons = append(x.Nons, uint64(m.IntN(3))<<(m.IntN(2)*60))
	}
	return x
}

func (m maker) graph(many int) api.Graph {
	g := api.Graph{Roots: m.numbers(m.IntN(5), many)}
	for range many {
		g.Nodes = append(g.Nodes, m.node(many))
	}
	return g
}

// row makes a graph in which each node leads to one that is near it, so that there are long ways.
func (m maker) row(many int) api.Graph {
	g := api.Graph{Roots: []int{0, m.IntN(many)}}
	near := func(n int) int { return max(-1, n+1-m.IntN(8)/7*m.IntN(6)) }
	for n := range many {
		switch m.IntN(3) {
		case 0:
			g.Nodes = append(g.Nodes, ind(near(n)))
		case 1:
			g.Nodes = append(g.Nodes, sel(0, uint64(m.IntN(9)/8), near(n)))
		default:
			g.Nodes = append(g.Nodes, con(0, near(n), m.number(many)))
		}
	}
	return g
}

// renumbered is a graph whose nodes have other numbers.
func (m maker) renumbered(g api.Graph) api.Graph {
	x := cloned(g)
	to := m.Perm(len(g.Nodes))
	for n, k := range to {
		x.Nodes[k] = cloned(g).Nodes[n]
	}
	eachNumber(x, func(n *int) {
		if node(g, *n) {
			*n = to[*n]
		}
	})
	return x
}

// checkOneStep puts each root and each Kid that is on the way where it leads, one at a time: Short is the same.
func checkOneStep(t *testing.T, g, short api.Graph) int {
	t.Helper()
	many, done := 0, 0
	eachNumber(g, func(*int) { many++ })
	for put := range many {
		x, i := cloned(g), 0
		changed := false
		eachNumber(x, func(n *int) {
			if to := -1; i == put && *n >= 0 {
				if to = ruleLeads(cloned(g), *n); to >= 0 {
					*n, changed = to, true
				}
			}
			i++
		})
		if changed {
			done++
			want(t, fmt.Sprintf("Short of %s, with %d put where it leads", told(g), put), graph.Short(x), short)
		}
	}
	return done
}

func TestRandomGraphs(t *testing.T) {
	m := makerOf(1)
	rounds, done := map[int]int{}, 0
	for i := range 6000 {
		g := m.graph(m.IntN(14))
		if i%3 == 0 {
			g = m.row(1 + m.IntN(30))
		}
		norm := checkNorm(t, "a graph", g)
		short := checkShort(t, "a graph", g)
		_, times := ruleShort(g)
		rounds[min(times, 4)]++
		done += checkOneStep(t, g, short)
		for range 3 {
			x := m.renumbered(g)
			want(t, "Norm of other numbers", graph.Norm(x), norm)
			want(t, "Short of other numbers", graph.Short(x), short)
		}
		want(t, "Short of Norm", graph.Short(norm), short)
		if graph.Words(g) != ruleWords(g) {
			t.Errorf("Words of %s: %d; want %d", told(g), graph.Words(g), ruleWords(g))
		}
	}
	for n := range 5 {
		if rounds[n] < 20 {
			t.Errorf("%d graphs took %d times", rounds[n], n)
		}
	}
	if done < 1000 {
		t.Errorf("%d were put where they lead", done)
	}
}

func TestRandomPairs(t *testing.T) {
	m := makerOf(2)
	same := 0
	for range 20000 {
		many := m.IntN(3)
		a, b := m.graph(many), m.graph(many)
		if m.IntN(2) == 0 {
			b = cloned(a)
			eachNumber(b, func(n *int) {
				if m.IntN(6) == 0 {
					*n = m.number(many)
				}
			})
		}
		if graph.Same(a, b) != ruleSame(a, b) || graph.Same(b, a) != ruleSame(a, b) {
			t.Fatalf("Same of %v and %v: %t", a, b, graph.Same(a, b))
		}
		if !graph.Same(a, cloned(a)) {
			t.Fatalf("%v is not the same as its clone", a)
		}
		if ruleSame(a, b) {
			same++
		}
	}
	if same < 5000 || same > 15000 {
		t.Errorf("%d of 20000 are the same", same)
	}
}

func TestRandomHeaps(t *testing.T) {
	m := makerOf(3)
	wrong := 0
	for range 700 {
		h := made(t, 1+m.IntN(3), 1+m.IntN(3), 30)
		var all []int
		some := func() int {
			if len(all) == 0 || m.IntN(8) == 0 {
				return 0
			}
			return all[m.IntN(len(all))]
		}
		for range m.IntN(30) {
			x := heads()[m.IntN(len(heads()))]
			x.Ptrs, x.Nons = min(x.Ptrs, 9), min(x.Nons, 3)
			var ptrs []int
			var nons []uint64
			for range x.Ptrs {
				ptrs = append(ptrs, some())
			}
			for range x.Nons {
				nons = append(nons, m.Uint64()>>m.IntN(64))
			}
			all = append(all, lay(t, h, x, ptrs, nons))
		}
		for range m.IntN(20) {
			h.Set(some(), m.IntN(3), some())
		}
		var rs []int
		for range m.IntN(5) {
			rs = append(rs, some()+m.IntN(30)/29)
		}
		busy := m.IntN(2) == 0
		if busy {
			expect(t, "Begin", h.Begin(0), api.OK)
			for range m.IntN(4) {
				h.Evacuate(some(), 0)
			}
		}
		x, e := checkDecode(t, "a heap", h, rs...)
		if e != api.OK {
			wrong++
			continue
		}
		want(t, "Norm of Decode", graph.Norm(x), x)
		checkShort(t, "a heap", x)
	}
	if wrong < 50 || wrong > 500 {
		t.Errorf("%d of 700 have an error", wrong)
	}
}

// What is put about in a graph stays apart from what was answered before.
func TestAnswersStay(t *testing.T) {
	m := makerOf(4)
	for range 300 {
		g := m.graph(2 + m.IntN(8))
		norm, short := graph.Norm(g), graph.Short(g)
		was, shorter := ruleNorm(g), cloned(short)
		for i := range g.Nodes {
			g.Nodes[i].Kind++
			for j := range g.Nodes[i].Nons {
				g.Nodes[i].Nons[j]++
			}
		}
		eachNumber(g, func(n *int) { *n = 1 })
		g.Nodes = slices.Delete(g.Nodes, 0, 1)
		want(t, "Norm, when what was handed in is another", norm, was)
		want(t, "Short, when what was handed in is another", short, shorter)
	}
}
