package stack_test

import (
	"slices"
	"testing"

	"midden/api"
	"midden/stack"
)

// P14.4 and R3: what the range over frames tells.

// downFive tells the frames of five as Frames does.
func downFive() []api.Frame {
	l := five()
	slices.Reverse(l)
	return l
}

func TestFramesFromTheTopOneDown(t *testing.T) {
	s := holding(t, 5, five()...)
	checkTold(t, "Frames", list(s.Frames()), downFive())
	checkStack(t, "behind a range", s, five()...)
	checkTold(t, "of one frame", list(holding(t, 0, ofSel(2, 3)).Frames()), []api.Frame{ofSel(2, 3)})
	checkTold(t, "of none", list(made(t, 3).Frames()), nil)
}

func TestFramesOfEachKindAtItsEnds(t *testing.T) {
	var frames []api.Frame
	for _, r := range kindRules() {
		frames = append(frames, r.most(), r.least())
	}
	checkStack(t, "all ends", holding(t, 0, frames...), frames...)
}

func TestFramesIsLeftAnywhereAndGoneOverAgain(t *testing.T) {
	s := holding(t, 0, five()...)
	frames := s.Frames()
	for stop := 1; stop <= 5; stop++ {
		var got []api.Frame
		for f := range frames {
			if got = append(got, f); len(got) == stop {
				break
			}
		}
		checkTold(t, "left early", got, downFive()[:stop])
		checkTold(t, "gone over again", list(frames), downFive())
	}
}

// Whoever looks for a frame leaves the range at it.
func TestFramesIsLeftWhereAFrameIsFound(t *testing.T) {
	find := func(s *stack.Stack, kind int) (api.Frame, bool) {
		for f := range s.Frames() {
			if f.Kind == kind {
				return f, true
			}
		}
		return api.Frame{}, false
	}
	s := holding(t, 0, ofUpd(1), ofArgs(2), ofUpd(3), ofSel(4, 5))
	if f, ok := find(s, api.FUpd); !ok || !sameFrame(f, ofUpd(3)) {
		t.Errorf("the top FUpd is %v, %t; want that of 3", f, ok)
	}
	if f, ok := find(s, api.FPrim); ok {
		t.Errorf("an FPrim is %v; want none", f)
	}
}

// changes is all that can be done to a stack of the five frames; none of them stays as it was at its place.
func changes() map[string]func(*stack.Stack) {
	empty := func(s *stack.Stack) {
		for s.Len() > 0 {
			s.Pop()
		}
	}
	return map[string]func(*stack.Stack){
		"pushed on": func(s *stack.Stack) { s.Push(ofSel(1, 1)); s.Push(ofUpd(600)) },
		"popped":    func(s *stack.Stack) { s.Pop(); s.Pop() },
		"emptied":   empty,
		"filled anew": func(s *stack.Stack) {
			empty(s)
			for s.Push(ofUpd(601)) == api.OK {
			}
		},
		"turned": func(s *stack.Stack) { s.Map(func(p int) int { return 1000 + p/2 }) },
		"turned to nothing, popped and pushed": func(s *stack.Stack) {
			s.Map(func(int) int { return 0 })
			s.Pop()
			s.Push(ofArgs(8, 8))
		},
	}
}

func TestFramesTellsWhatThereWasWhenItBegan(t *testing.T) {
	for what, change := range changes() {
		for at := range 5 {
			s := holding(t, 9, five()...)
			frames := s.Frames()
			var got []api.Frame
			for f := range frames {
				if len(got) == at {
					change(s)
				}
				got = append(got, f)
			}
			checkTold(t, what+" meanwhile", got, downFive())
			checkTold(t, what+" meanwhile, and gone over again", list(frames), downFive())
		}
	}
}

// A range begins but once, where it is asked for: neither where it is gone over first, nor where it is gone over again.
func TestFramesBeginsWhereItIsAskedFor(t *testing.T) {
	for what, change := range changes() {
		s := holding(t, 9, five()...)
		early, late := s.Frames(), s.Frames()
		checkTold(t, "ahead of a change", list(early), downFive())
		change(s)
		behind := s.Frames()
		now := list(behind)
		if slices.EqualFunc(now, downFive(), sameFrame) {
			t.Errorf("%s: the frames are as they were", what)
		}
		for range 2 {
			checkTold(t, what+", gone over again", list(early), downFive())
			checkTold(t, what+", gone over first behind it", list(late), downFive())
			checkTold(t, what+", asked for behind it", list(behind), now)
		}
		for s.Len() > 0 {
			s.Pop()
		}
		push(t, s, ofSel(0, 0))
		checkTold(t, what+", and emptied", list(early), downFive())
		checkTold(t, what+", and emptied", list(late), downFive())
		checkTold(t, what+", and emptied", list(behind), now)
	}
}

func TestFramesLeftAheadOfAChange(t *testing.T) {
	for what, change := range changes() {
		for stop := 1; stop <= 5; stop++ {
			s := holding(t, 9, five()...)
			frames := s.Frames()
			n := 0
			for range frames {
				if n++; n == stop {
					break
				}
			}
			change(s)
			checkTold(t, what+", behind a range that was left", list(frames), downFive())
		}
	}
}

// Frames may be taken away by who ranges over them, and new ones pushed for each.
func TestPopAndPushOfAllThatARangeTells(t *testing.T) {
	s := holding(t, 40, five()...)
	for f := range s.Frames() {
		checkPop(t, s, f)
	}
	checkStack(t, "all are popped", s)
	for _, f := range five() {
		push(t, s, f)
	}
	for f := range s.Frames() {
		push(t, s, f)
	}
	checkStack(t, "all are there twice", s, append(five(), downFive()...)...)
}

func TestFramesWithinItself(t *testing.T) {
	s := holding(t, 30, five()...)
	frames := s.Frames()
	var got []api.Frame
	for f := range frames {
		checkTold(t, "within itself", list(frames), downFive())
		push(t, s, ofUpd(len(got)))
		if anew := list(s.Frames()); len(anew) != 6+len(got) {
			t.Errorf("asked for within itself: %d frames; want %d", len(anew), 6+len(got))
		}
		got = append(got, f)
	}
	checkTold(t, "around itself", got, downFive())
}

// What is told is whoever's who was told: changing it changes neither the stack, nor what the range tells again, nor another frame.
func TestFramesAreNewMemory(t *testing.T) {
	s := holding(t, 0, five()...)
	frames, other := s.Frames(), s.Frames()
	for range 2 {
		for f := range frames {
			for i := range f.Ptrs {
				f.Ptrs[i] = -9
			}
			_ = append(f.Ptrs, -8, -7, -6)
		}
	}
	checkTold(t, "gone over again", list(frames), downFive())
	checkTold(t, "another range", list(other), downFive())
	checkStack(t, "the stack", s, five()...)
	told := list(frames)
	for i := range told {
		told[i].Ptrs = append(told[i].Ptrs, 5)
	}
	for i, f := range told {
		if want := downFive()[i]; !slices.Equal(f.Ptrs, append(want.Ptrs, 5)) {
			t.Errorf("the frame %d is %v when all have grown", i, f)
		}
	}
}

// A loop's own panic is its owner's, and comes through.
func TestFramesLeftByPanic(t *testing.T) {
	s := holding(t, 0, five()...)
	n := 0
	func() {
		defer func() {
			if x := recover(); x != "enough" {
				t.Errorf("what came through is %v", x)
			}
		}()
		for range s.Frames() {
			if n++; n == 2 {
				panic("enough")
			}
		}
	}()
	if n != 2 {
		t.Errorf("left behind %d frames; want 2", n)
	}
	checkStack(t, "behind it", s, five()...)
}
