package heap

import (
	"slices"

	"midden/api"
	"midden/bump"
	"midden/remember"
	"midden/shape"
	"midden/word"
)

// work is a collection that is under way.
type work struct {
	spaces []*bump.Space   // those that were set aside
	aside  map[int]place   // of each closure that was set aside: in which space it was
	fresh  []int           // what was laid since Begin, in order
	told   int             // how many of these Fresh told
	late   *remember.Lists // the old closures into which Store put a younger one: no barrier puts them into a list, but Finish must look at them
}

// Begin sets the young generations aside.
func (h *Heap) Begin(gen int) api.Errno {
	if e := h.resting(); e != api.OK {
		return e
	}
	if !isOne(gen, len(h.spaces)) {
		return api.ErrArg
	}
	late, _ := remember.New(h.config.Gens)
	h.work = &work{aside: map[int]place{}, late: late}
	for young := range gen + 1 {
		h.setAside(young)
	}
	return api.OK
}

// setAside sets a generation aside.
func (h *Heap) setAside(gen int) {
	for _, s := range h.spaces[gen] {
		for at := range s.Each() {
			h.work.aside[at] = h.where[at]
			delete(h.where, at)
		}
	}
	h.work.spaces = append(h.work.spaces, h.spaces[gen]...)
	h.spaces[gen] = h.emptySpaces(gen)
	h.lists.Take(gen)
}

// isAside tells whether a closure was set aside, moved or not.
func (h *Heap) isAside(at int) bool {
	if h.working() != api.OK {
		return false
	}
	_, ok := h.work.aside[at]
	return ok
}

// next tells in which space a closure goes on that was in one, and that is to be of a generation that is not below least.
func (h *Heap) next(in place, least int) place {
	if in.step+1 < h.steps(in.gen) {
		in.step++
	} else if in.gen+1 < len(h.spaces) {
		in = place{gen: in.gen + 1}
	}
	if least > in.gen {
		in = place{gen: least}
	}
	return in
}

// Evacuate moves what is set aside.
func (h *Heap) Evacuate(at, least int) (int, api.Errno) {
	if e := h.working(); e != api.OK {
		return 0, e
	}
	if at == 0 {
		return 0, api.OK
	}
	if !isOne(least, len(h.spaces)) {
		return 0, api.ErrArg
	}
	if h.isClosure(at) {
		return at, api.OK
	}
	if !h.isAside(at) {
		return 0, api.ErrRange
	}
	if to, ok := h.Moved(at); ok {
		return to, api.OK
	}
	return h.move(at, h.next(h.work.aside[at], least))
}

// move moves a closure to a space, and lets where it went stand where its header was.
func (h *Heap) move(at int, in place) (int, api.Errno) {
	words := shape.Size(h.head(at))
	to, e := h.room(in, words)
	if e != api.OK {
		h.die()
		return 0, e
	}
	h.arena.Move(to, at, words)
	went, _ := word.Forward(to)
	h.arena.Write(at, went)
	h.work.fresh = append(h.work.fresh, to)
	return to, api.OK
}

// Moved tells where a closure that was set aside went.
func (h *Heap) Moved(at int) (int, bool) {
	if !h.isAside(at) {
		return 0, false
	}
	return word.Moved(h.word(at))
}

// Fresh tells the next closure that was laid in this collection.
func (h *Heap) Fresh() (int, bool) {
	if h.working() != api.OK || h.work.told == len(h.work.fresh) {
		return 0, false
	}
	at := h.work.fresh[h.work.told]
	h.work.told++
	return at, true
}

// Store puts a pointer, without the barrier.
func (h *Heap) Store(at, i, p int) api.Errno {
	if e := h.working(); e != api.OK {
		return e
	}
	if e := h.put(at, i, p); e != api.OK {
		return e
	}
	h.bar(h.work.late, at, p)
	return api.OK
}

// changed tells the closures that may have a pointer to what was set aside, or one to a younger one by now: all others are old and have neither.
func (h *Heap) changed() []int {
	l := slices.Clone(h.work.fresh)
	for gen := range h.spaces {
		l = slices.Concat(l, h.lists.All(gen), h.work.late.All(gen))
	}
	return l
}

// hasPointer tells whether a closure has a pointer of which ask says so.
func (h *Heap) hasPointer(at int, ask func(p int) bool) bool {
	for i := range h.head(at).Ptrs {
		if ask(h.pointer(at, i)) {
			return true
		}
	}
	return false
}

// hasAside tells whether a closure points to what was set aside.
func (h *Heap) hasAside(at int) bool {
	return h.hasPointer(at, h.isAside)
}

// enlist lets a closure stand in its list just if it must.
func (h *Heap) enlist(at int) {
	younger := h.hasPointer(at, func(p int) bool { return h.isYounger(p, at) })
	if younger {
		h.lists.Put(h.where[at].gen, at)
	} else {
		h.lists.Drop(h.where[at].gen, at)
	}
}

// Finish ends a collection.
func (h *Heap) Finish() api.Errno {
	if e := h.working(); e != api.OK {
		return e
	}
	l := h.changed()
	if slices.ContainsFunc(l, h.hasAside) {
		h.die()
		return api.ErrRange
	}
	for _, s := range h.work.spaces {
		s.Free()
	}
	h.work = nil
	for _, at := range l {
		h.enlist(at)
	}
	return api.OK
}
