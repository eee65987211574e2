package stack_test

import (
	"math"
	"slices"
	"testing"

	"midden/api"
	"midden/stack"
)

// P14.5

func same(p int) int { return p }

func TestMapTurnsEachPointer(t *testing.T) {
	s := holding(t, 0, five()...)
	s.Map(func(p int) int { return 524288 - p })
	checkStack(t, "turned", s,
		ofCase(9, 524284, 524288, 0), ofUpd(524277), ofArgs(524283, 524282), ofPrim(16, 2, 524287, 524286, 524285), ofSel(1048575, 7))
	s.Map(func(p int) int { return 524288 - p })
	checkStack(t, "turned back", s, five()...)
	s.Map(same)
	checkStack(t, "turned to themselves", s, five()...)
}

func TestMapAtEachKindsEnds(t *testing.T) {
	r := rule{words: 5000}
	s := made(t, 5000)
	for _, k := range kindRules() {
		for _, f := range []api.Frame{k.least(), k.most()} {
			push(t, s, f)
			r.push(f)
		}
	}
	for _, f := range []func(int) int{same, func(p int) int { return p ^ 1 }, func(p int) int { return p - 1 }, func(p int) int { return p + 1 }} {
		s.Map(f)
		r.turn(f)
		checkStack(t, "turned at all ends", s, r.frames...)
	}
}

func TestMapToNumbersAtBothEndsAndBeyond(t *testing.T) {
	tells := map[int]int{0: 0, 1: 1, 2: 2, 524287: 524287, 524288: 524288, 524289: 0, -1: 0, -524288: 0}
	for _, far := range slices.Concat(farBelow, farAbove) {
		tells[far] = 0
	}
	tells[math.MinInt+524288], tells[math.MaxInt-524287] = 0, 0
	for told, want := range tells {
		s := holding(t, 0, ofArgs(5, 6, 7), ofUpd(8))
		s.Map(func(int) int { return told })
		checkStack(t, "all told alike", s, ofArgs(want, want, want), ofUpd(want))
		for at, p := range []int{5, 6, 7, 8} {
			s := holding(t, 0, ofArgs(5, 6, 7), ofUpd(8))
			s.Map(func(x int) int {
				if x == p {
					return told
				}
				return x
			})
			l := []int{5, 6, 7, 8}
			l[at] = want
			checkStack(t, "one told otherwise", s, ofArgs(l[0], l[1], l[2]), ofUpd(l[3]))
		}
	}
}

// From the lowest frame up, from the first pointer on, each just once; also those that are 0, or the same twice.
func TestMapsOrder(t *testing.T) {
	s := holding(t, 3, ofCase(1, 4, 0, 4), ofSel(2, 2), ofArgs(9, 8, 7), ofCase(3), ofUpd(524288), ofPrim(1, 1, 0, 9))
	var asked []int
	s.Map(func(p int) int {
		asked = append(asked, p)
		return len(asked)
	})
	if want := []int{4, 0, 4, 9, 8, 7, 524288, 0, 9}; !slices.Equal(asked, want) {
		t.Errorf("asked of %v; want %v", asked, want)
	}
	checkStack(t, "numbered in order", s, ofCase(1, 1, 2, 3), ofSel(2, 2), ofArgs(4, 5, 6), ofCase(3), ofUpd(7), ofPrim(1, 1, 8, 9))
}

// What a function told in one Map is what it is asked of in the next, and 0 for what no pointer can be.
func TestMapAsksOfWhatIsThere(t *testing.T) {
	s := holding(t, 0, ofArgs(1, 2), ofUpd(3))
	s.Map(func(p int) int { return p*300000 - 1 })
	var asked []int
	s.Map(func(p int) int { asked = append(asked, p); return p })
	if want := []int{299999, 0, 0}; !slices.Equal(asked, want) {
		t.Errorf("asked of %v; want %v", asked, want)
	}
}

func TestMapOfNothing(t *testing.T) {
	never := func(p int) int {
		t.Errorf("asked of %d", p)
		return p
	}
	s := made(t, 9)
	s.Map(never)
	checkStack(t, "no frame", s)
	push(t, s, ofSel(1, 2))
	push(t, s, ofCase(3))
	s.Map(never)
	checkStack(t, "no pointer", s, ofSel(1, 2), ofCase(3))
	push(t, s, ofUpd(4))
	s.Pop()
	s.Map(never)
	checkStack(t, "a frame that is there no more", s, ofSel(1, 2), ofCase(3))
}

func TestMapOfANilFunction(t *testing.T) {
	s := holding(t, 4, five()...)
	s.Map(nil)
	checkStack(t, "a nil function", s, five()...)
	made(t, 1).Map(nil)
}

// What is popped was turned as if it had been on top all the time, and what is pushed later was not.
func TestMapBetweenPushAndPop(t *testing.T) {
	s := holding(t, 6, ofUpd(1), ofArgs(2, 3))
	s.Map(func(p int) int { return p + 10 })
	push(t, s, ofUpd(4))
	s.Map(func(p int) int { return p + 100 })
	push(t, s, ofUpd(5))
	checkStack(t, "turned twice, once, never", s, ofUpd(111), ofArgs(112, 113), ofUpd(104), ofUpd(5))
	for _, want := range []api.Frame{ofUpd(5), ofUpd(104), ofArgs(112, 113), ofUpd(111)} {
		checkPop(t, s, want)
	}
}

// R1 and R3 of functions that are handed in: whatever they do.

// A function that gives up tells nothing: nothing is turned, and the stack goes on as any.
func TestMapOfAFunctionThatPanics(t *testing.T) {
	for give := range 9 {
		s := holding(t, 2, five()...)
		n := 0
		s.Map(func(p int) int {
			if n++; n > give {
				panic("no more")
			}
			return p + 1
		})
		checkStack(t, "behind a panic", s, five()...)
		push(t, s, ofUpd(2))
		s.Map(func(p int) int { return 3 })
		checkPop(t, s, ofUpd(3))
		checkPop(t, s, ofSel(1048575, 7))
		checkPop(t, s, ofPrim(16, 2, 3, 3, 3))
	}
}

func TestMapOfAFunctionThatPanicsWithNil(t *testing.T) {
	s := holding(t, 0, five()...)
	s.Map(func(int) int { panic(nil) })
	s.Map(func(int) int { var l []int; return l[3] })
	checkStack(t, "behind a panic", s, five()...)
}

// atFirst tells a function that does something when it is asked first, and adds 100.
func atFirst(do func()) func(int) int {
	done := false
	return func(p int) int {
		if !done {
			done = true
			do()
		}
		return p + 100
	}
}

func TestMapOfAFunctionThatLooks(t *testing.T) {
	s := holding(t, 0, ofUpd(1), ofArgs(2, 3))
	n := 0
	s.Map(func(p int) int {
		n++
		checkStack(t, "looked at meanwhile", s, ofUpd(1), ofArgs(2, 3))
		return p + 100
	})
	if n != 3 {
		t.Errorf("asked %d times; want 3", n)
	}
	checkStack(t, "turned", s, ofUpd(101), ofArgs(102, 103))
}

// Those frames are turned that there were when Map began, and that are there yet; what was pushed meanwhile is as it was pushed.
func TestMapOfAFunctionThatPushesAndPops(t *testing.T) {
	for _, c := range []struct {
		what string
		do   func(*stack.Stack)
		want []api.Frame
	}{
		{"pushes", func(s *stack.Stack) { s.Push(ofUpd(50)) },
			[]api.Frame{ofUpd(101), ofArgs(102, 103), ofCase(7, 104), ofUpd(50)}},
		{"pops", func(s *stack.Stack) { s.Pop() },
			[]api.Frame{ofUpd(101), ofArgs(102, 103)}},
		{"pops and pushes", func(s *stack.Stack) { s.Pop(); s.Push(ofPrim(1, 0, 60)); s.Push(ofUpd(61)) },
			[]api.Frame{ofUpd(101), ofArgs(102, 103), ofPrim(1, 0, 60), ofUpd(61)}},
		{"pushes and pops", func(s *stack.Stack) { s.Push(ofUpd(50)); s.Push(ofSel(1, 1)); s.Pop(); s.Pop() },
			[]api.Frame{ofUpd(101), ofArgs(102, 103), ofCase(7, 104)}},
		{"pops two and pushes others of other sizes", func(s *stack.Stack) {
			s.Pop()
			s.Pop()
			s.Push(ofSel(1, 2))
			s.Push(ofArgs(70, 71, 72))
			s.Push(ofSel(3, 4))
		}, []api.Frame{ofUpd(101), ofSel(1, 2), ofArgs(70, 71, 72), ofSel(3, 4)}},
		{"pops all", func(s *stack.Stack) { s.Pop(); s.Pop(); s.Pop(); s.Pop() }, nil},
		{"pops all and pushes more", func(s *stack.Stack) {
			s.Pop()
			s.Pop()
			s.Pop()
			s.Push(ofArgs(80, 81, 82, 83, 84, 85, 86, 87))
			s.Push(ofSel(0, 7))
		}, []api.Frame{ofArgs(80, 81, 82, 83, 84, 85, 86, 87), ofSel(0, 7)}},
		{"turns and pushes", func(s *stack.Stack) { s.Map(func(p int) int { return p + 7 }); s.Push(ofUpd(50)) },
			[]api.Frame{ofUpd(101), ofArgs(102, 103), ofCase(7, 104), ofUpd(50)}},
		{"pops, pushes, turns, pushes", func(s *stack.Stack) {
			s.Pop()
			s.Push(ofSel(9, 7))
			s.Push(ofArgs(30, 31))
			s.Map(func(p int) int { return p + 7 })
			s.Push(ofUpd(50))
		}, []api.Frame{ofUpd(101), ofArgs(102, 103), ofSel(9, 7), ofArgs(37, 38), ofUpd(50)}},
		{"turns by one that pops", func(s *stack.Stack) {
			s.Map(atFirst(func() { s.Pop(); s.Pop(); s.Push(ofArgs(40, 41, 42)) }))
		}, []api.Frame{ofUpd(101), ofArgs(40, 41, 42)}},
		{"pushes, and turns by one that pops", func(s *stack.Stack) {
			s.Push(ofUpd(50))
			s.Map(atFirst(func() { s.Pop(); s.Push(ofSel(0, 3)) }))
		}, []api.Frame{ofUpd(101), ofArgs(102, 103), ofCase(7, 104), ofSel(0, 3)}},
		{"turns by one that panics", func(s *stack.Stack) {
			s.Pop()
			s.Map(func(int) int { panic("no") })
			s.Push(ofSel(5, 6))
		}, []api.Frame{ofUpd(101), ofArgs(102, 103), ofSel(5, 6)}},
	} {
		s := holding(t, 12, ofUpd(1), ofArgs(2, 3), ofCase(7, 4))
		var asked []int
		turn := atFirst(func() { c.do(s) })
		s.Map(func(p int) int {
			asked = append(asked, p)
			return turn(p)
		})
		checkStack(t, "a function that "+c.what, s, c.want...)
		if !slices.Equal(asked, []int{1, 2, 3, 4}) {
			t.Errorf("a function that %s was asked of %v; want 1 to 4", c.what, asked)
		}
		s.Map(func(p int) int { return 0 })
		for _, f := range slices.Backward(c.want) {
			f = copyOf(f)
			clear(f.Ptrs)
			checkPop(t, s, f)
		}
		checkPopRefused(t, s, api.ErrRange)
	}
}

// One that pushes whenever it is asked: Map ends all the same, for it asks of the frames that it began with.
func TestMapOfAFunctionThatAlwaysPushes(t *testing.T) {
	s := holding(t, 4000, ofArgs(1, 2, 3))
	n := 0
	s.Map(func(p int) int {
		n++
		s.Push(ofUpd(p))
		return p + 100
	})
	if n != 3 {
		t.Errorf("asked %d times; want 3", n)
	}
	checkStack(t, "it pushed", s, ofArgs(101, 102, 103), ofUpd(1), ofUpd(2), ofUpd(3))
}

// A function that turns another stack of the same arena turns that one alone.
func TestMapWithinAMapOfAnotherStack(t *testing.T) {
	a := arenaOf(t, 10)
	low, high := stackIn(t, a, 0, 5), stackIn(t, a, 5, 5)
	push(t, low, ofArgs(1, 2))
	push(t, high, ofArgs(3, 4))
	low.Map(func(p int) int {
		high.Map(func(q int) int { return q * 10 })
		high.Push(ofSel(p, 0))
		return p + 100
	})
	checkStack(t, "the outer one", low, ofArgs(101, 102))
	checkStack(t, "the inner one", high, ofArgs(300, 400), ofSel(1, 0), ofSel(2, 0))
}
