package stack_test

import (
	"math"
	"slices"
	"testing"

	"midden/api"
	"midden/arena"
	"midden/stack"
)

func TestExampleOfTheChapter(t *testing.T) {
	s := stackIn(t, arenaOf(t, 9), 0, 4)
	push(t, s, ofArgs(5, 6))
	if s.Used() != 3 {
		t.Errorf("Used %d; want 3", s.Used())
	}
	checkPush(t, s, ofUpd(7), api.ErrFull)
	checkPop(t, s, ofArgs(5, 6))
	checkPopRefused(t, s, api.ErrRange)
}

// P14.2

func checkNew(t *testing.T, a *arena.Arena, from, words int, want api.Errno) {
	t.Helper()
	s, e := stack.New(a, from, words)
	if e != want || (s != nil) != (want == api.OK) {
		t.Errorf("New in %d words, %d, %d: a stack %t, error %d; want error %d", a.Len(), from, words, s != nil, int(e), int(want))
	}
	if s != nil {
		checkStack(t, "a new stack", s)
		checkPopRefused(t, s, api.ErrRange)
	}
}

func TestNewOfANilArena(t *testing.T) {
	for _, from := range slices.Concat(farBelow, []int{0, 1}, farAbove) {
		for _, words := range slices.Concat(farBelow, []int{0, 1, 1 << 16, 1<<16 + 1}, farAbove) {
			checkNew(t, nil, from, words, api.ErrNil)
		}
	}
}

func TestNewOfSizesThatMayNotBe(t *testing.T) {
	a := arenaOf(t, 1<<19)
	for _, words := range slices.Concat(farBelow, []int{0, 1<<16 + 1, 1 << 17, 1 << 19}, farAbove) {
		// Also where the place is none: the size is named first.
		for _, from := range slices.Concat(farBelow, []int{0, 1 << 18, 1 << 19}, farAbove) {
			checkNew(t, a, from, words, api.ErrSize)
		}
	}
	for _, words := range []int{1, 2, 1<<16 - 1, 1 << 16} {
		checkNew(t, a, 0, words, api.OK)
		checkNew(t, a, 1<<19-words, words, api.OK)
		checkNew(t, a, 1<<19-words+1, words, api.ErrRange)
	}
}

func TestNewOfWordsThatAreNone(t *testing.T) {
	for _, all := range []int{1, 2, 9, 64, 1 << 16, 1<<16 + 1} {
		a := arenaOf(t, all)
		for _, words := range []int{1, 2, 8, 9, 10, 63, 64, 65, 1<<16 - 1, 1 << 16} {
			checkNew(t, a, -1, words, api.ErrRange)
			for _, from := range slices.Concat(farBelow, farAbove) {
				checkNew(t, a, from, words, api.ErrRange)
			}
			if words > all {
				checkNew(t, a, 0, words, api.ErrRange)
				continue
			}
			checkNew(t, a, 0, words, api.OK)
			checkNew(t, a, all-words, words, api.OK)
			checkNew(t, a, all-words+1, words, api.ErrRange)
			checkNew(t, a, all, words, api.ErrRange)
			checkNew(t, a, math.MaxInt-words+1, words, api.ErrRange)
		}
	}
}

func TestEverySmallStackInEverySmallArena(t *testing.T) {
	for all := 1; all <= 6; all++ {
		a := arenaOf(t, all)
		for from := -2; from <= all+2; from++ {
			for words := -1; words <= all+2; words++ {
				want := api.OK
				switch {
				case words < 1:
					want = api.ErrSize
				case from < 0 || from+words > all:
					want = api.ErrRange
				}
				checkNew(t, a, from, words, want)
			}
		}
	}
}

// A stack is without frames whatever stood in its words, and refusing one lays nothing.
func TestNewInWordsThatWereWritten(t *testing.T) {
	for _, w := range []uint64{0, 1, 5, 1 << 8, 0x103, math.MaxUint64} {
		a := arenaOf(t, 8)
		for at := range 8 {
			a.Write(at, w)
		}
		checkNew(t, a, 0, 9, api.ErrRange)
		checkNew(t, a, 0, 0, api.ErrSize)
		for at := range 8 {
			if got, _ := a.Read(at); got != w {
				t.Errorf("the word %d is %d behind a stack that was refused; want %d", at, got, w)
			}
		}
		checkNew(t, a, 0, 8, api.OK)
		s := stackIn(t, a, 1, 6)
		push(t, s, ofPrim(3, 1, 8, 9))
		checkStack(t, "in written words", s, ofPrim(3, 1, 8, 9))
		checkPop(t, s, ofPrim(3, 1, 8, 9))
		checkPopRefused(t, s, api.ErrRange)
	}
}

// P14.3, P14.7

func TestPushAndPopOfEachKindAtItsEnds(t *testing.T) {
	for _, r := range kindRules() {
		for _, f := range []api.Frame{r.least(), r.most()} {
			s := made(t, 2000)
			push(t, s, ofUpd(2))
			push(t, s, f)
			checkStack(t, "with one of its kind", s, ofUpd(2), f)
			checkPop(t, s, f)
			checkStack(t, "without it", s, ofUpd(2))
		}
	}
}

// Each A, B and pointer that has one bit alone, or all but one, comes back as it was: no part runs into another.
func TestPushAndPopOfNumbersBitByBit(t *testing.T) {
	s := made(t, 2000)
	for bit := range 20 {
		for _, a := range []int{1 << bit, 1<<20 - 1 - 1<<bit} {
			for b := range 8 {
				push(t, s, ofSel(a, b))
				checkPop(t, s, ofSel(a, b))
			}
			for _, n := range []int{0, 1, 2, 255, 256, 511, 512, 999, 1000} {
				f := ofCase(a, pointers(n)...)
				push(t, s, f)
				checkPop(t, s, f)
			}
		}
	}
	for bit := range 20 {
		push(t, s, ofArgs(1<<bit, 524288, 1<<19-1<<bit, 0))
		checkPop(t, s, ofArgs(1<<bit, 524288, 1<<19-1<<bit, 0))
	}
}

func TestPushOfEveryNumberOfPointers(t *testing.T) {
	s := made(t, 1001)
	for n := range 1001 {
		f := ofCase(n, pointers(n)...)
		push(t, s, f)
		if s.Used() != n+1 || s.Len() != 1 {
			t.Errorf("with %d pointers: Used %d, Len %d", n, s.Used(), s.Len())
		}
		checkPop(t, s, f)
	}
}

func TestWhatWasPushedLastIsPoppedFirst(t *testing.T) {
	frames := five()
	s := holding(t, 0, frames...)
	checkStack(t, "all of them", s, frames...)
	for n := len(frames) - 1; n >= 0; n-- {
		checkPop(t, s, frames[n])
		checkStack(t, "those below", s, frames[:n]...)
	}
	for _, f := range slices.Backward(frames) {
		push(t, s, f)
	}
	for _, f := range frames {
		checkPop(t, s, f)
	}
	checkPopRefused(t, s, api.ErrRange)
}

func TestPushOfFramesThatAreNotRight(t *testing.T) {
	for _, left := range []int{0, 1, 2, 2000} {
		s := holding(t, left, five()...)
		for _, f := range []api.Frame{
			{}, {Kind: 6}, {Kind: -1}, {Kind: math.MinInt}, {Kind: 1<<32 + 5},
			{Kind: api.FUpd}, {Kind: api.FSel, Ptrs: []int{1}}, ofCase(1, pointers(1001)...),
			{Kind: api.FCase, A: 1 << 20}, {Kind: api.FCase, B: 1}, {Kind: api.FPrim, B: 1, Ptrs: []int{1}}, ofSel(0, 8), ofSel(math.MaxInt, 0),
			ofUpd(-1), ofUpd(524289), ofArgs(1, 2, math.MaxInt), ofArgs(math.MinInt, 2),
		} {
			// Where there is no room either: what is wrong with the frame is named first.
			checkPush(t, s, f, rightByRule(f))
			if rightByRule(f) == api.OK {
				t.Errorf("%v is right", f)
			}
		}
		checkStack(t, "behind what was refused", s, five()...)
	}
}

// A frame that just fills what is left, and one that is a word too great.
func TestPushIntoWhatIsLeft(t *testing.T) {
	below := []api.Frame{ofSel(3, 1), ofUpd(8)}
	for n := range 12 {
		for left := range 14 {
			s := holding(t, left, below...)
			f := ofCase(77, pointers(n)...)
			if n+1 > left {
				checkPush(t, s, f, api.ErrFull)
				checkStack(t, "behind a frame that is too great", s, below...)
				continue
			}
			push(t, s, f)
			checkStack(t, "with what fits", s, below[0], below[1], f)
			if n+1 == left {
				checkPush(t, s, ofSel(0, 0), api.ErrFull)
				checkStack(t, "a full one", s, below[0], below[1], f)
			}
			checkPop(t, s, f)
			checkStack(t, "behind Pop", s, below...)
		}
	}
}

func TestFramesOfEachKindThatAreAWordTooGreat(t *testing.T) {
	for _, r := range kindRules() {
		for _, f := range []api.Frame{r.least(), r.most()} {
			words := len(f.Ptrs) + 1
			s := made(t, words)
			push(t, s, f)
			checkStack(t, "it fills a stack", s, f)
			checkPush(t, s, ofSel(0, 0), api.ErrFull)
			if words == 1 {
				continue
			}
			s = made(t, words-1)
			checkPush(t, s, f, api.ErrFull)
			checkStack(t, "a word is wanting", s)
		}
	}
}

func TestStackOfOneWord(t *testing.T) {
	s := stackIn(t, arenaOf(t, 1), 0, 1)
	checkPush(t, s, ofUpd(1), api.ErrFull)
	for range 3 {
		push(t, s, ofSel(7, 7))
		checkPush(t, s, ofSel(1, 1), api.ErrFull)
		checkStack(t, "one frame", s, ofSel(7, 7))
		checkPop(t, s, ofSel(7, 7))
		checkPopRefused(t, s, api.ErrRange)
		push(t, s, ofCase(0))
		checkPop(t, s, ofCase(0))
	}
}

func TestPopDownToNothingAndOnceMore(t *testing.T) {
	s := holding(t, 0, ofUpd(1), ofArgs(2, 3))
	checkPop(t, s, ofArgs(2, 3))
	checkPop(t, s, ofUpd(1))
	for range 3 {
		checkPopRefused(t, s, api.ErrRange)
		checkStack(t, "with nothing", s)
	}
	// It is as at first: all its words are there again, and no more.
	push(t, s, ofArgs(4, 5, 6, 7))
	checkStack(t, "full again", s, ofArgs(4, 5, 6, 7))
	checkPush(t, s, ofCase(0), api.ErrFull)
	checkPop(t, s, ofArgs(4, 5, 6, 7))
	checkPush(t, s, ofArgs(4, 5, 6, 7, 8), api.ErrFull)
	checkPopRefused(t, s, api.ErrRange)
}

func TestWhatWasPoppedIsOnesOwn(t *testing.T) {
	s := holding(t, 3, ofUpd(1), ofArgs(2, 3, 4))
	f, _ := s.Pop()
	push(t, s, ofArgs(9, 9, 9))
	push(t, s, ofUpd(8))
	s.Map(func(p int) int { return p + 100 })
	if !sameFrame(f, ofArgs(2, 3, 4)) {
		t.Errorf("what was popped is %v behind a Push", f)
	}
	f.Ptrs[0], f.Ptrs[2] = 55, 66
	f.Ptrs = append(f.Ptrs, 77)
	checkStack(t, "what was popped is changed", s, ofUpd(101), ofArgs(109, 109, 109), ofUpd(108))
}

func TestWhatWasPushedIsItsOwners(t *testing.T) {
	s := made(t, 20)
	room := []int{1, 2, 3, 40, 50}
	f := ofArgs(room[:3]...)
	push(t, s, f)
	push(t, s, f)
	if !slices.Equal(room, []int{1, 2, 3, 40, 50}) {
		t.Errorf("the list and its spare room are %v behind Push", room)
	}
	for i := range room {
		room[i] = 7000 + i
	}
	checkStack(t, "the owner changed it", s, ofArgs(1, 2, 3), ofArgs(1, 2, 3))
	s.Map(func(p int) int { return p * 2 })
	checkPop(t, s, ofArgs(2, 4, 6))
	if !slices.Equal(room, []int{7000, 7001, 7002, 7003, 7004}) {
		t.Errorf("the list and its spare room are %v behind Map", room)
	}
}

// P14.4

func TestLenAndUsed(t *testing.T) {
	s := made(t, 100)
	used := 0
	for i := range 10 {
		push(t, s, ofCase(i, pointers(i)...))
		used += i + 1
		if s.Len() != i+1 || s.Used() != used {
			t.Errorf("Len %d, Used %d; want %d, %d", s.Len(), s.Used(), i+1, used)
		}
	}
	for i := 9; i >= 0; i-- {
		s.Pop()
		used -= i + 1
		if s.Len() != i || s.Used() != used {
			t.Errorf("Len %d, Used %d; want %d, %d", s.Len(), s.Used(), i, used)
		}
	}
}

// P14.2: two stacks in one arena, side by side, and words that are nobody's on either side.

func TestTwoStacksInOneArena(t *testing.T) {
	a := arenaOf(t, 15)
	mark := func(at int) uint64 { return math.MaxUint64 - uint64(at) }
	for at := range a.Len() {
		a.Write(at, mark(at))
	}
	low, high := stackIn(t, a, 1, 6), stackIn(t, a, 7, 7)
	for range 3 {
		push(t, low, ofArgs(1, 2, 3))
		push(t, high, ofUpd(9))
		push(t, low, ofUpd(4))
		push(t, high, ofPrim(5, 0, 6, 7, 8))
		checkPush(t, low, ofSel(0, 0), api.ErrFull)
		push(t, high, ofSel(1, 1))
		checkPush(t, high, ofSel(0, 0), api.ErrFull)
		checkStack(t, "the low one", low, ofArgs(1, 2, 3), ofUpd(4))
		checkStack(t, "the high one", high, ofUpd(9), ofPrim(5, 0, 6, 7, 8), ofSel(1, 1))
		low.Map(func(p int) int { return p + 10 })
		checkStack(t, "the low one, turned", low, ofArgs(11, 12, 13), ofUpd(14))
		checkStack(t, "the high one, as it was", high, ofUpd(9), ofPrim(5, 0, 6, 7, 8), ofSel(1, 1))
		high.Map(func(p int) int { return -p })
		checkStack(t, "the low one, as it was", low, ofArgs(11, 12, 13), ofUpd(14))
		checkPop(t, low, ofUpd(14))
		checkPop(t, low, ofArgs(11, 12, 13))
		checkPopRefused(t, low, api.ErrRange)
		checkStack(t, "the high one alone", high, ofUpd(0), ofPrim(5, 0, 0, 0, 0), ofSel(1, 1))
		for high.Len() > 0 {
			high.Pop()
		}
	}
	for _, at := range []int{0, 14} {
		if w, _ := a.Read(at); w != mark(at) {
			t.Errorf("the word %d, which is no stack's, is %d; want %d", at, w, mark(at))
		}
	}
}

// A stack lies in the arena's words: no frame has more of them than it takes, and none lies beside them.
func TestFramesLieInTheStacksWords(t *testing.T) {
	for from := range 4 {
		for words := 1; words <= 9; words++ {
			a := arenaOf(t, 13)
			for at := range a.Len() {
				a.Write(at, math.MaxUint64)
			}
			s := stackIn(t, a, from, words)
			r := rule{words: words}
			for n := 0; ; n++ {
				f := ofCase(n, pointers(n%3)...)
				want := r.push(f)
				checkPush(t, s, f, want)
				if want != api.OK {
					break
				}
			}
			written := 0
			for at := range a.Len() {
				w, _ := a.Read(at)
				if w == math.MaxUint64 {
					continue
				}
				if written++; at < from || at >= from+words {
					t.Errorf("a stack of %d words from %d on wrote the word %d", words, from, at)
				}
			}
			if written != s.Used() {
				t.Errorf("a stack of %d words from %d on wrote %d words; it takes %d", words, from, written, s.Used())
			}
			checkStack(t, "as great as it may be", s, r.frames...)
		}
	}
}

// P14.6

func TestNilStack(t *testing.T) {
	var s *stack.Stack
	for _, f := range append(five(), api.Frame{}, api.Frame{Kind: 9}, ofUpd(-1), ofCase(0, pointers(1001)...)) {
		checkPush(t, s, f, api.ErrNil)
	}
	checkPopRefused(t, s, api.ErrNil)
	checkStack(t, "a nil stack", s)
	frames := s.Frames()
	for range 2 {
		checkTold(t, "Frames of a nil stack", list(frames), nil)
	}
	s.Map(nil)
	s.Map(func(p int) int {
		t.Errorf("Map of a nil stack asked of %d", p)
		return p
	})
}
