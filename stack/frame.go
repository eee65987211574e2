package stack

import (
	"iter"

	"midden/api"
)

// The parts of a frame's last word: the kind from bit 0 on, then B, how many pointers there are, and A, which has all bits that are left. A right frame's numbers fit.
const (
	bLow    = 4
	ptrsLow = 8
	aLow    = 24

	smallMask = 1<<4 - 1
	ptrsMask  = 1<<16 - 1
)

// size tells how many words a frame takes.
func size(f api.Frame) int {
	return len(f.Ptrs) + 1
}

// lastWord tells what stands above a right frame's pointers.
func lastWord(f api.Frame) uint64 {
	return uint64(f.Kind) | uint64(f.B)<<bLow | uint64(len(f.Ptrs))<<ptrsLow | uint64(f.A)<<aLow
}

// pointers tells how many of them stand below a frame's last word.
func pointers(last uint64) int {
	return int(last >> ptrsLow & ptrsMask)
}

// reader tells the word at a place, counted from a stack's lowest word on.
type reader func(at int) uint64

// read tells the frame whose n pointers stand from a place on. Its list is new each time, so that it is its owner's alone.
func (word reader) read(at, n int) api.Frame {
	last := word(at + n)
	f := api.Frame{
		Kind: int(last & smallMask),
		A:    int(last >> aLow),
		B:    int(last >> bLow & smallMask),
	}
	if n > 0 {
		f.Ptrs = make([]int, n)
	}
	for i := range f.Ptrs {
		f.Ptrs[i] = int(word(at + i))
	}
	return f
}

// spots ranges over the frames that lie in so many words, from the top one down: where each one's pointers begin, and how many there are. It reads the words as they are meanwhile: who hands a range out hands in a copy.
func (word reader) spots(used int) iter.Seq2[int, int] {
	return func(yield func(int, int) bool) {
		for end := used; end > 0; {
			// Should another have written these words all the same, the walk stays within them, and ends.
			n := min(pointers(word(end-1)), end-1)
			end -= n + 1
			if !yield(end, n) {
				return
			}
		}
	}
}
