package graph

import (
	"slices"

	"midden/api"
)

// unknown stands for an end that nobody asked for yet.
const unknown = -2

// step is a node whose end is the next one's: it leads there, or it would lead on if its Kid, which is the next one, came to the right KCon.
type step struct {
	node  int
	leads bool
}

// way tells ends: what is met, when nothing changes any more, by going on from a node to where it leads. Once a node leads somewhere it does so for ever, whatever is put elsewhere meanwhile: so each end is looked for but once, and needs no times one behind the other.
type way struct {
	nodes []api.Node
	ends  []int  // of each node; none, if it is lost
	path  []step // the nodes whose ends are being looked for, each waiting for the next one
	spots []int  // of each node: where it is in path
}

func newWay(nodes []api.Node) *way {
	return &way{
		nodes: nodes,
		ends:  slices.Repeat([]int{unknown}, len(nodes)),
		spots: slices.Repeat([]int{none}, len(nodes)),
	}
}

// kid tells a node's Kid by its number, if it is a node.
func (w *way) kid(x api.Node, i uint64) int {
	if i >= uint64(len(x.Kids)) {
		return none
	}
	return known(x.Kids[i], len(w.nodes))
}

// next tells for which node another one waits, if it does, and whether it leads there. Of several Kids the first one is meant, as of all that are as good (R6).
func (w *way) next(n int) (int, bool) {
	x := w.nodes[n]
	switch x.Kind {
	case api.KInd:
		return w.kid(x, 0), true
	case api.KSel:
		return w.kid(x, 0), false
	}
	return none, false
}

// field tells where a KSel leads whose Kid came to an end.
func (w *way) field(sel, end int) int {
	if end == none {
		return none
	}
	x, of := w.nodes[sel], w.nodes[end]
	if len(x.Nons) == 0 || of.Kind != api.KCon || of.Info != x.Info {
		return none
	}
	return w.kid(of, x.Nons[0])
}

// ring tells the end of a node in path that was met again. It and all those behind it wait for one another: a KSel among them that waits for its Kid never leads anywhere, so that the first such one is the end; without one all are lost.
func (w *way) ring(spot int) int {
	i := slices.IndexFunc(w.path[spot:], func(s step) bool { return !s.leads })
	if i < 0 {
		return none
	}
	return w.path[spot+i].node
}

// forward goes on from a node till there is an end.
func (w *way) forward(n int) int {
	for w.ends[n] == unknown {
		if w.spots[n] != none {
			return w.ring(w.spots[n])
		}
		to, leads := w.next(n)
		if to == none {
			w.ends[n] = n
			break
		}
		w.spots[n] = len(w.path)
		w.path = append(w.path, step{n, leads})
		n = to
	}
	return w.ends[n]
}

// end tells a number's end.
func (w *way) end(n int) int {
	if !isNode(n, len(w.nodes)) {
		return none
	}
	end := w.forward(n)
	for len(w.path) > 0 {
		last := &w.path[len(w.path)-1]
		if !last.leads {
			if to := w.field(last.node, end); to != none {
				last.leads = true
				end = w.forward(to)
				continue
			}
			end = last.node
		}
		w.ends[last.node] = end
		w.path = w.path[:len(w.path)-1]
	}
	return end
}
