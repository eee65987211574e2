package heap

import (
	"midden/api"
	"midden/bump"
)

// visible tells whether there is a closure to be looked at. What has moved is none: where its header was, stands where it went.
func (h *Heap) visible(at int) bool {
	_, moved := h.Moved(at)
	return h.isClosure(at) || h.isAside(at) && !moved
}

// Head tells a header.
func (h *Heap) Head(at int) (api.Head, api.Errno) {
	if e := h.gone(); e != api.OK {
		return api.Head{}, e
	}
	if !h.visible(at) {
		return api.Head{}, api.ErrRange
	}
	return h.head(at), api.OK
}

// isOne tells whether one of so many, from 0 on, has that number.
func isOne(i, many int) bool {
	return i >= 0 && i < many
}

// Ptr tells a pointer.
func (h *Heap) Ptr(at, i int) (int, api.Errno) {
	x, e := h.Head(at)
	if e != api.OK {
		return 0, e
	}
	if !isOne(i, x.Ptrs) {
		return 0, api.ErrIndex
	}
	return h.pointer(at, i), api.OK
}

// Non tells another word.
func (h *Heap) Non(at, i int) (uint64, api.Errno) {
	x, e := h.Head(at)
	if e != api.OK {
		return 0, e
	}
	if !isOne(i, x.Nons) {
		return 0, api.ErrIndex
	}
	return h.word(at + 1 + x.Ptrs + i), api.OK
}

// Where tells a closure's generation and step.
func (h *Heap) Where(at int) (int, int, api.Errno) {
	if e := h.gone(); e != api.OK {
		return 0, 0, e
	}
	in, ok := h.where[at]
	if !ok {
		return 0, 0, api.ErrRange
	}
	return in.gen, in.step, api.OK
}

// spacesOf tells a generation's spaces. A dead heap has none, and so no generation.
func (h *Heap) spacesOf(gen int) []*bump.Space {
	if h == nil || !isOne(gen, len(h.spaces)) {
		return nil
	}
	return h.spaces[gen]
}

// sum tells what a generation's spaces answer together.
func (h *Heap) sum(gen int, ask func(*bump.Space) int) int {
	n := 0
	for _, s := range h.spacesOf(gen) {
		n += ask(s)
	}
	return n
}

// Closures tells the addresses in a space.
func (h *Heap) Closures(gen, step int) []int {
	spaces := h.spacesOf(gen)
	if !isOne(step, len(spaces)) {
		return nil
	}
	var l []int
	for at := range spaces[step].Each() {
		l = append(l, at)
	}
	return l
}

// Old tells a generation's list.
func (h *Heap) Old(gen int) []int {
	if h.gone() != api.OK {
		return nil
	}
	return h.lists.All(gen)
}

// Used tells how many words a generation has.
func (h *Heap) Used(gen int) int {
	return h.sum(gen, (*bump.Space).Used)
}

// Blocks tells how many blocks a generation has.
func (h *Heap) Blocks(gen int) int {
	return h.sum(gen, (*bump.Space).Blocks)
}

// Left tells how many blocks are free.
func (h *Heap) Left() int {
	if h.gone() != api.OK {
		return 0
	}
	return h.pool.Left()
}
