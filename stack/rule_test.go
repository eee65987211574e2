package stack_test

import (
	"iter"
	"math"
	"slices"
	"testing"

	"midden/api"
	"midden/arena"
	"midden/stack"
)

// Numbers from all over the range of int that nothing of a stack is: no kind, no A, no B, no pointer, no place, no count.
var (
	farBelow = []int{math.MinInt, math.MinInt + 1, -1 << 62, -1 << 32, -1<<32 + 1, -1<<32 + 3, -1 << 31, -1 << 20, -1 << 19, -64, -2, -1}
	farAbove = []int{1<<20 + 1, 1<<31 - 1, 1 << 31, 1<<32 - 1, 1 << 32, 1<<32 + 1, 1<<32 + 3, 1 << 61, 1 << 62, math.MaxInt - 8, math.MaxInt - 1, math.MaxInt}
)

// kindRule is a row of the chapter's table, written out again.
type kindRule struct {
	kind                 int
	aLeast, aMost        int
	bLeast, bMost        int
	fewestPtrs, mostPtrs int
}

func kindRules() []kindRule {
	return []kindRule{
		{1, 0, 1048575, 0, 0, 0, 1000},
		{2, 0, 0, 0, 0, 1, 1},
		{3, 0, 0, 0, 0, 1, 8},
		{4, 1, 16, 0, 2, 1, 3},
		{5, 0, 1048575, 0, 7, 0, 0},
	}
}

// rightByRule says what Right answers.
func rightByRule(f api.Frame) api.Errno {
	for _, r := range kindRules() {
		if r.kind != f.Kind {
			continue
		}
		if len(f.Ptrs) < r.fewestPtrs || len(f.Ptrs) > r.mostPtrs {
			return api.ErrSize
		}
		if f.A < r.aLeast || f.A > r.aMost || f.B < r.bLeast || f.B > r.bMost {
			return api.ErrArg
		}
		for _, p := range f.Ptrs {
			if p < 0 || p > 524288 {
				return api.ErrRange
			}
		}
		return api.OK
	}
	return api.ErrKind
}

// pointers tells n of them, each unlike the others.
func pointers(n int) []int {
	var l []int
	for i := range n {
		l = append(l, (i*7919+n)%524289)
	}
	return l
}

// least and most tell a kind's frames at both ends of all that the table says.
func (r kindRule) least() api.Frame {
	return api.Frame{Kind: r.kind, A: r.aLeast, B: r.bLeast, Ptrs: pointers(r.fewestPtrs)}
}

func (r kindRule) most() api.Frame {
	f := api.Frame{Kind: r.kind, A: r.aMost, B: r.bMost}
	for range r.mostPtrs {
		f.Ptrs = append(f.Ptrs, 524288)
	}
	return f
}

// A frame of each kind, written short.
func ofCase(a int, ptrs ...int) api.Frame { return api.Frame{Kind: api.FCase, A: a, Ptrs: ptrs} }
func ofUpd(thunk int) api.Frame           { return api.Frame{Kind: api.FUpd, Ptrs: []int{thunk}} }
func ofArgs(ptrs ...int) api.Frame        { return api.Frame{Kind: api.FArgs, Ptrs: ptrs} }
func ofSel(con, field int) api.Frame      { return api.Frame{Kind: api.FSel, A: con, B: field} }
func ofPrim(n, arg int, ptrs ...int) api.Frame {
	return api.Frame{Kind: api.FPrim, A: n, B: arg, Ptrs: ptrs}
}

// five tells a right frame of each kind; together they take 13 words.
func five() []api.Frame {
	return []api.Frame{ofCase(9, 4, 0, 524288), ofUpd(11), ofArgs(5, 6), ofPrim(16, 2, 1, 2, 3), ofSel(1048575, 7)}
}

func copyOf(f api.Frame) api.Frame {
	f.Ptrs = slices.Clone(f.Ptrs)
	return f
}

func sameFrame(f, g api.Frame) bool {
	return f.Kind == g.Kind && f.A == g.A && f.B == g.B && slices.Equal(f.Ptrs, g.Ptrs)
}

// rule is a stack by the chapter's words alone: its frames, the lowest first, and how many words it has.
type rule struct {
	words  int
	frames []api.Frame
}

func (r *rule) used() int {
	n := 0
	for _, f := range r.frames {
		n += len(f.Ptrs) + 1
	}
	return n
}

func (r *rule) push(f api.Frame) api.Errno {
	if e := rightByRule(f); e != api.OK {
		return e
	}
	if r.used()+len(f.Ptrs)+1 > r.words {
		return api.ErrFull
	}
	r.frames = append(r.frames, copyOf(f))
	return api.OK
}

func (r *rule) pop() (api.Frame, api.Errno) {
	if len(r.frames) == 0 {
		return api.Frame{}, api.ErrRange
	}
	last := len(r.frames) - 1
	f := r.frames[last]
	r.frames = slices.Clone(r.frames[:last])
	return f, api.OK
}

func (r *rule) turn(f func(int) int) {
	for i := range r.frames {
		r.frames[i] = copyOf(r.frames[i])
		for j, p := range r.frames[i].Ptrs {
			to := f(p)
			if to < 0 || to > 524288 {
				to = 0
			}
			r.frames[i].Ptrs[j] = to
		}
	}
}

// downward tells the frames as Frames does.
func (r *rule) downward() []api.Frame {
	l := slices.Clone(r.frames)
	slices.Reverse(l)
	return l
}

func arenaOf(t *testing.T, words int) *arena.Arena {
	t.Helper()
	a, e := arena.New(words)
	if e != api.OK {
		t.Fatalf("arena.New(%d): error %d", words, int(e))
	}
	return a
}

func stackIn(t *testing.T, a *arena.Arena, from, words int) *stack.Stack {
	t.Helper()
	s, e := stack.New(a, from, words)
	if s == nil || e != api.OK {
		t.Fatalf("New(%d, %d): a stack %t, error %d", from, words, s != nil, int(e))
	}
	return s
}

// made makes a stack in the midst of an arena that is greater.
func made(t *testing.T, words int) *stack.Stack {
	t.Helper()
	return stackIn(t, arenaOf(t, words+9), 4, words)
}

// holding makes a stack that has these frames, the lowest first, and so many words more.
func holding(t *testing.T, left int, frames ...api.Frame) *stack.Stack {
	t.Helper()
	r := rule{frames: frames}
	s := made(t, r.used()+left)
	for _, f := range frames {
		push(t, s, f)
	}
	return s
}

func push(t *testing.T, s *stack.Stack, f api.Frame) {
	t.Helper()
	checkPush(t, s, f, api.OK)
}

func checkPush(t *testing.T, s *stack.Stack, f api.Frame, want api.Errno) {
	t.Helper()
	if e := s.Push(f); e != want {
		t.Errorf("Push of kind %d, A %d, B %d, %d pointers: error %d; want %d", f.Kind, f.A, f.B, len(f.Ptrs), int(e), int(want))
	}
}

func checkPop(t *testing.T, s *stack.Stack, want api.Frame) {
	t.Helper()
	if f, e := s.Pop(); !sameFrame(f, want) || e != api.OK {
		t.Errorf("Pop = %v, error %d; want %v, 0", f, int(e), want)
	}
}

func checkPopRefused(t *testing.T, s *stack.Stack, want api.Errno) {
	t.Helper()
	f, e := s.Pop()
	if f.Kind != 0 || f.A != 0 || f.B != 0 || f.Ptrs != nil || e != want {
		t.Errorf("Pop = %v, error %d; want nothing, %d", f, int(e), int(want))
	}
}

func list(s iter.Seq[api.Frame]) []api.Frame {
	var l []api.Frame
	for f := range s {
		l = append(l, f)
	}
	return l
}

// checkTold holds frames that were told against those that are wanted, the top one first.
func checkTold(t *testing.T, what string, got, want []api.Frame) {
	t.Helper()
	if len(got) != len(want) {
		t.Errorf("%s: %d frames; want %d", what, len(got), len(want))
		return
	}
	for i := range got {
		if !sameFrame(got[i], want[i]) {
			t.Errorf("%s: the frame %d from the top is %v; want %v", what, i, got[i], want[i])
			return
		}
	}
}

// checkStack holds all that a stack tells against the frames that it should have, the lowest first.
func checkStack(t *testing.T, what string, s *stack.Stack, frames ...api.Frame) {
	t.Helper()
	r := rule{frames: frames}
	if s.Len() != len(frames) || s.Used() != r.used() {
		t.Errorf("%s: Len %d, Used %d; want %d, %d", what, s.Len(), s.Used(), len(frames), r.used())
	}
	checkTold(t, what+": Frames", list(s.Frames()), r.downward())
}
