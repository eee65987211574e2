package heap

import (
	"midden/api"
	"midden/remember"
	"midden/shape"
)

// put puts a pointer, and does no more.
func (h *Heap) put(at, i, p int) api.Errno {
	if !h.isClosure(at) {
		return api.ErrRange
	}
	if !isOne(i, h.head(at).Ptrs) {
		return api.ErrIndex
	}
	if !h.mayPoint(p) {
		return api.ErrRange
	}
	h.setPointer(at, i, p)
	return api.OK
}

// isYounger tells whether a pointer is to a closure that is younger than the one at a place.
func (h *Heap) isYounger(p, at int) bool {
	return p != 0 && h.where[p].gen < h.where[at].gen
}

// bar is the barrier for a pointer that was put into a closure.
func (h *Heap) bar(lists *remember.Lists, at, p int) {
	if h.isYounger(p, at) {
		lists.Put(h.where[at].gen, at)
	}
}

// Set puts a pointer.
func (h *Heap) Set(at, i, p int) api.Errno {
	if e := h.resting(); e != api.OK {
		return e
	}
	if e := h.put(at, i, p); e != api.OK {
		return e
	}
	h.bar(h.lists, at, p)
	return api.OK
}

// passed tells what a closure becomes.
func (h *Heap) passed(at, kind int) (api.Head, api.Errno) {
	if !h.isClosure(at) {
		return api.Head{}, api.ErrRange
	}
	return shape.Over(h.head(at), kind)
}

// become lets a closure be one of another header, but of the same size, whose first word is that. The others are cleared: what stood there were pointers, or means nothing any more.
func (h *Heap) become(at int, x api.Head, first uint64) {
	h.setHead(at, x)
	h.arena.Clear(at+1, x.Ptrs+x.Nons)
	h.arena.Write(at+1, first)
}

// leads tells whether at is p, or is met from it. Those that were met are kept, for Set may have closed them to a ring.
func (h *Heap) leads(p, at int) bool {
	met := map[int]struct{}{}
	for p != at {
		if _, ok := met[p]; ok || p == 0 || h.head(p).Kind != api.KInd {
			return false
		}
		met[p] = struct{}{}
		p = h.pointer(p, 0)
	}
	return true
}

// Pass lets a closure point to another one.
func (h *Heap) Pass(at, p int) api.Errno {
	if e := h.resting(); e != api.OK {
		return e
	}
	if !h.isClosure(p) {
		return api.ErrRange
	}
	x, e := h.passed(at, api.KInd)
	if e != api.OK {
		return e
	}
	if h.leads(p, at) {
		return api.ErrLoop
	}
	h.become(at, x, uint64(p))
	h.bar(h.lists, at, p)
	return api.OK
}

// Hole marks a closure as being in work.
func (h *Heap) Hole(at int) api.Errno {
	if e := h.resting(); e != api.OK {
		return e
	}
	x, e := h.passed(at, api.KHole)
	if e != api.OK {
		return e
	}
	h.become(at, x, 0)
	return api.OK
}

// mostError is the greatest number of an error that has a text.
const mostError = 9999

// Fail lets a closure have an error.
func (h *Heap) Fail(at int, e api.Errno) api.Errno {
	if wrong := h.resting(); wrong != api.OK {
		return wrong
	}
	x, wrong := h.passed(at, api.KFail)
	if wrong != api.OK {
		return wrong
	}
	if e < 1 || e > mostError {
		return api.ErrArg
	}
	h.become(at, x, uint64(e))
	return api.OK
}
