package stack_test

import (
	"testing"

	"midden/api"
	"midden/stack"
)

// Stacks as great as the document allows (R1 to R6): MaxStack words.

const most = 1 << 16

// nth tells frames of all kinds, by their number.
func nth(i int) api.Frame {
	switch i % 5 {
	case 0:
		return ofCase(i, pointers(i%50)...)
	case 1:
		return ofUpd(i)
	case 2:
		return ofArgs(pointers(1 + i%8)...)
	case 3:
		return ofPrim(1+i%16, i%3, pointers(1+i%3)...)
	}
	return ofSel(i, i%8)
}

// filled makes a stack of all words, at that place of an arena of all words, and pushes frames till one finds no room.
func filled(t *testing.T, from int) (*stack.Stack, []api.Frame) {
	t.Helper()
	s := stackIn(t, arenaOf(t, 1<<19), from, most)
	r := rule{words: most}
	used := 0
	for i := 0; used+len(nth(i).Ptrs)+1 <= most; i++ {
		f := nth(i)
		push(t, s, f)
		r.frames = append(r.frames, f)
		used += len(f.Ptrs) + 1
	}
	checkPush(t, s, ofCase(0, pointers(1000)...), api.ErrFull)
	return s, r.frames
}

func TestGreatStackAtBothEndsOfTheGreatestArena(t *testing.T) {
	for _, from := range []int{0, 1<<19 - most} {
		s, frames := filled(t, from)
		checkStack(t, "a great one", s, frames...)
		for i := len(frames) - 1; i >= 0; i-- {
			checkPop(t, s, frames[i])
			if s.Len() != i {
				t.Fatalf("Len %d; want %d", s.Len(), i)
			}
		}
		checkPopRefused(t, s, api.ErrRange)
	}
}

func TestGreatStackIsTurned(t *testing.T) {
	s, frames := filled(t, 77)
	r := rule{words: most, frames: frames}
	for _, f := range []func(int) int{func(p int) int { return p + 1 }, func(p int) int { return 524000 - p }, func(p int) int { return p * 3 }} {
		s.Map(f)
		r.turn(f)
		checkStack(t, "a great one, turned", s, r.frames...)
	}
}

// As many frames as there can be, each of one word.
func TestMostFrames(t *testing.T) {
	s := stackIn(t, arenaOf(t, most), 0, most)
	for i := range most {
		push(t, s, ofSel(i, i%8))
	}
	if s.Len() != most || s.Used() != most {
		t.Errorf("Len %d, Used %d; want %d both", s.Len(), s.Used(), most)
	}
	checkPush(t, s, ofSel(0, 0), api.ErrFull)
	s.Map(func(p int) int {
		t.Errorf("asked of %d", p)
		return p
	})
	at := most
	for f := range s.Frames() {
		at--
		if !sameFrame(f, ofSel(at, at%8)) {
			t.Fatalf("the frame %d is %v", at, f)
		}
	}
	for i := most - 1; i >= 0; i-- {
		checkPop(t, s, ofSel(i, i%8))
	}
	checkPopRefused(t, s, api.ErrRange)
}

// As many pointers as there can be, in frames that are as great as can be.
func TestMostPointers(t *testing.T) {
	s := stackIn(t, arenaOf(t, most), 0, most)
	n := 0
	for s.Push(ofCase(n, pointers(1000)...)) == api.OK {
		n++
	}
	if n != most/1001 {
		t.Errorf("%d frames of 1001 words; want %d", n, most/1001)
	}
	left := most - n*1001
	push(t, s, ofCase(n, pointers(left-1)...))
	if s.Used() != most || s.Len() != n+1 {
		t.Errorf("Used %d, Len %d; want %d, %d", s.Used(), s.Len(), most, n+1)
	}
	asked := 0
	s.Map(func(p int) int {
		asked++
		return asked
	})
	if asked != most-n-1 {
		t.Errorf("asked of %d pointers; want %d", asked, most-n-1)
	}
	for i, p := range list(s.Frames())[n].Ptrs {
		if p != i+1 {
			t.Fatalf("the pointer %d of the lowest frame is %d; want %d", i, p, i+1)
		}
	}
	checkPush(t, s, ofSel(0, 0), api.ErrFull)
}

// What a call does hangs on the frame that it is of, not on how many lie below: else these would not end.
func TestManyCallsOnAGreatStack(t *testing.T) {
	s, frames := filled(t, 0)
	for range 5000 {
		checkPop(t, s, frames[len(frames)-1])
		for s.Push(ofSel(s.Len(), 0)) == api.OK {
		}
		for s.Len() >= len(frames) {
			s.Pop()
		}
		push(t, s, frames[len(frames)-1])
	}
	checkStack(t, "behind many calls", s, frames...)
}
