package graph

import "midden/api"

// meeting is a walk over nodes in the order of meeting. A node's place is whatever it is known by ahead of that: an address, or another number.
type meeting struct {
	look    func(place int) (api.Node, api.Errno) // a node of the walk's own, whose Kids are places
	empty   int                                   // the place where there is no node
	numbers map[int]int                           // of each place that was met
	nodes   []api.Node
}

// isNew tells whether a node is met there for the first time.
func (m *meeting) isNew(place int) bool {
	_, met := m.numbers[place]
	return !met && place != m.empty
}

// meet gives a node the next number, and tells its Kids.
func (m *meeting) meet(place int) ([]int, api.Errno) {
	x, e := m.look(place)
	if e != api.OK {
		return nil, e
	}
	m.numbers[place] = len(m.nodes)
	m.nodes = append(m.nodes, x)
	return x.Kids, api.OK
}

// walk meets all that some places reach. Rows of nodes may be as long as a heap, so that what is left to be gone into is kept in a list: of each node that was gone into the rest of its Kids.
func (m *meeting) walk(places []int) api.Errno {
	left := [][]int{places}
deeper:
	for len(left) > 0 {
		last := len(left) - 1
		for i, place := range left[last] {
			if !m.isNew(place) {
				continue
			}
			kids, e := m.meet(place)
			if e != api.OK {
				return e
			}
			left[last] = left[last][i+1:]
			left = append(left, kids)
			continue deeper
		}
		left = left[:last]
	}
	return api.OK
}

// numbered tells the numbers of what was met at some places.
func (m *meeting) numbered(places []int) []int {
	l := make([]int, len(places))
	for i, place := range places {
		n, met := m.numbers[place]
		if !met {
			n = none
		}
		l[i] = n
	}
	return l
}

// meetAll tells what some places reach as a graph, or the first error that look tells.
func meetAll(places []int, empty int, look func(place int) (api.Node, api.Errno)) (api.Graph, api.Errno) {
	m := &meeting{look: look, empty: empty, numbers: map[int]int{}}
	if e := m.walk(places); e != api.OK {
		return api.Graph{}, e
	}
	for i, x := range m.nodes {
		m.nodes[i].Kids = m.numbered(x.Kids)
	}
	return api.Graph{Roots: m.numbered(places), Nodes: m.nodes}, api.OK
}
