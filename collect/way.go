package collect

import "midden/api"

// spot is where a pointer is on its way: at a closure, by the address that it had when the collection began, with so many KSels yet to be passed over.
type spot struct {
	at, hops int
}

// here tells where a closure stands now.
func (c *collection) here(at int) int {
	if to, moved := c.heap.Moved(at); moved {
		return to
	}
	return at
}

// pointer tells a pointer as it was when the collection began.
func (c *collection) pointer(at, i int) int {
	at = c.here(at)
	if l, turned := c.was[at]; turned {
		return l[i]
	}
	p, _ := c.heap.Ptr(at, i)
	return p
}

// past tells where a pointer comes to over KInds alone. It is found once for all KInds on the way, for rows may be long and many pointers may lead into one. Each closure on the way ends at itself till its end is found: who comes back there went round a ring, and stays at it. KInds are passed over whatever hops are left, so that all pointers into a ring come to the same one of it.
func (c *collection) past(at int) int {
	var way []int
	for {
		if end, known := c.pasts[at]; known {
			at = end
			break
		}
		c.pasts[at] = at
		way = append(way, at)
		to := c.on(at)
		if to == 0 {
			break
		}
		at = to
	}
	for _, p := range way {
		c.pasts[p] = at
	}
	return at
}

// on tells where a KInd points to; 0 of all others.
func (c *collection) on(at int) int {
	if x, _ := c.heap.Head(c.here(at)); x.Kind != api.KInd {
		return 0
	}
	return c.pointer(at, 0)
}

// behind tells where a pointer goes on from a KSel; at 0, if it stays. One KSel less is left behind it, and in its own pointer: so no more than Hops are ever one behind the other.
func (c *collection) behind(s spot) spot {
	x, _ := c.heap.Head(c.here(s.at))
	if x.Kind != api.KSel || s.hops == 0 {
		return spot{}
	}
	of := c.end(spot{c.pointer(s.at, 0), s.hops - 1})
	return spot{c.field(s.at, x.Info, of), s.hops - 1}
}

// field tells the field that a KSel is for, of what its pointer leads to; 0, if that has none.
func (c *collection) field(sel, info, of int) int {
	x, _ := c.heap.Head(c.here(of))
	i, _ := c.heap.Non(c.here(sel), 0)
	if x.Kind != api.KCon || x.Info != info || i >= uint64(x.Ptrs) {
		return 0
	}
	return c.pointer(of, int(i))
}

// end tells what a pointer comes to when it is passed over. It is found once for all spots on the way.
func (c *collection) end(s spot) int {
	var way []spot
	at := 0
	for s.at != 0 {
		s.at = c.past(s.at)
		at = s.at
		if end, known := c.ends[s]; known {
			at = end
			break
		}
		way = append(way, s)
		s = c.behind(s)
	}
	for _, on := range way {
		c.ends[on] = at
	}
	return at
}
