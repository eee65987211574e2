package stack_test

import (
	"math"
	"slices"
	"testing"

	"midden/api"
	"midden/stack"
)

// P14.1

func checkRight(t *testing.T, what string, f api.Frame, want api.Errno) {
	t.Helper()
	if e := stack.Right(f); e != want {
		t.Errorf("%s: Right of kind %d, A %d, B %d, %d pointers: error %d; want %d", what, f.Kind, f.A, f.B, len(f.Ptrs), int(e), int(want))
	}
}

func TestRightFramesOfEachKind(t *testing.T) {
	for _, f := range five() {
		checkRight(t, "an ordinary one", f, api.OK)
	}
	for _, r := range kindRules() {
		checkRight(t, "the least", r.least(), api.OK)
		checkRight(t, "the most", r.most(), api.OK)
	}
}

func TestRightNumbersOfPointers(t *testing.T) {
	for _, r := range kindRules() {
		for n := range 1100 {
			f := r.least()
			f.Ptrs = pointers(n)
			want := api.OK
			if n < r.fewestPtrs || n > r.mostPtrs {
				want = api.ErrSize
			}
			checkRight(t, "a number of pointers", f, want)
		}
	}
	// Many pointers, also so many that a count of few bits would be small again.
	for _, n := range []int{1 << 12, 1<<16 - 1, 1 << 16, 1<<16 + 1, 1<<16 + 3, 1 << 20} {
		for kind := api.FCase; kind <= api.FSel; kind++ {
			checkRight(t, "many pointers", api.Frame{Kind: kind, A: 1, Ptrs: make([]int, n)}, api.ErrSize)
		}
	}
}

func TestRightAtBothEndsOfAAndB(t *testing.T) {
	for _, c := range []struct {
		kind, a, b int
		want       api.Errno
	}{
		{api.FCase, -1, 0, api.ErrArg}, {api.FCase, 0, 0, api.OK}, {api.FCase, 1<<20 - 1, 0, api.OK}, {api.FCase, 1 << 20, 0, api.ErrArg},
		{api.FCase, 5, -1, api.ErrArg}, {api.FCase, 5, 1, api.ErrArg},
		{api.FUpd, -1, 0, api.ErrArg}, {api.FUpd, 0, 0, api.OK}, {api.FUpd, 1, 0, api.ErrArg},
		{api.FUpd, 0, -1, api.ErrArg}, {api.FUpd, 0, 1, api.ErrArg},
		{api.FArgs, -1, 0, api.ErrArg}, {api.FArgs, 0, 0, api.OK}, {api.FArgs, 1, 0, api.ErrArg},
		{api.FArgs, 0, -1, api.ErrArg}, {api.FArgs, 0, 1, api.ErrArg},
		{api.FPrim, 0, 0, api.ErrArg}, {api.FPrim, 1, 0, api.OK}, {api.FPrim, 16, 0, api.OK}, {api.FPrim, 17, 0, api.ErrArg},
		{api.FPrim, 1, -1, api.ErrArg}, {api.FPrim, 1, 2, api.OK}, {api.FPrim, 1, 3, api.ErrArg}, {api.FPrim, 16, 2, api.OK},
		{api.FSel, -1, 0, api.ErrArg}, {api.FSel, 0, 0, api.OK}, {api.FSel, 1<<20 - 1, 0, api.OK}, {api.FSel, 1 << 20, 0, api.ErrArg},
		{api.FSel, 0, -1, api.ErrArg}, {api.FSel, 0, 7, api.OK}, {api.FSel, 0, 8, api.ErrArg}, {api.FSel, 1<<20 - 1, 7, api.OK},
	} {
		f := api.Frame{Kind: c.kind, A: c.a, B: c.b}
		if c.kind != api.FSel {
			f.Ptrs = []int{3}
		}
		checkRight(t, "A and B", f, c.want)
	}
}

// What a primitive takes, and which argument is waited for, are no matter of its frame: the table says each for itself.
func TestRightAsksEachPartOfAPrimitiveForItself(t *testing.T) {
	for a := 1; a <= 16; a++ {
		for b := 0; b <= 2; b++ {
			for n := 1; n <= 3; n++ {
				checkRight(t, "a primitive", ofPrim(a, b, pointers(n)...), api.OK)
			}
		}
	}
}

func TestRightPointersFirstAndLast(t *testing.T) {
	for _, r := range kindRules() {
		n := r.mostPtrs
		for _, at := range []int{0, n / 2, n - 1} {
			if n == 0 {
				continue
			}
			for p, want := range map[int]api.Errno{
				0: api.OK, 1: api.OK, 524287: api.OK, 524288: api.OK,
				-1: api.ErrRange, 524289: api.ErrRange, math.MinInt: api.ErrRange, math.MaxInt: api.ErrRange,
			} {
				f := r.most()
				f.Ptrs[at] = p
				checkRight(t, "a pointer", f, want)
			}
		}
	}
}

// Two, three and four faults of one frame: the chapter names the kind first, then the pointers' number, then A and B, then the pointers.
func TestRightTellsTheFirstFault(t *testing.T) {
	wrong := []int{-1}
	for _, c := range []struct {
		what string
		f    api.Frame
		want api.Errno
	}{
		{"kind, A, B, a pointer", api.Frame{Kind: 6, A: -1, B: -1, Ptrs: wrong}, api.ErrKind},
		{"kind, number, A", api.Frame{Kind: 0, A: -1, Ptrs: make([]int, 1001)}, api.ErrKind},
		{"number, A", api.Frame{Kind: api.FUpd, A: 1}, api.ErrSize},
		{"number, B", api.Frame{Kind: api.FArgs, B: 1}, api.ErrSize},
		{"number, a pointer", api.Frame{Kind: api.FUpd, Ptrs: []int{-1, 524289}}, api.ErrSize},
		{"number, A, B, a pointer", api.Frame{Kind: api.FSel, A: -1, B: 8, Ptrs: wrong}, api.ErrSize},
		{"A, B", api.Frame{Kind: api.FPrim, A: 0, B: 3, Ptrs: []int{1}}, api.ErrArg},
		{"A, a pointer", api.Frame{Kind: api.FPrim, A: 17, B: 0, Ptrs: wrong}, api.ErrArg},
		{"B, a pointer", api.Frame{Kind: api.FPrim, A: 1, B: -1, Ptrs: wrong}, api.ErrArg},
		{"B, a pointer", api.Frame{Kind: api.FCase, A: 1, B: 1, Ptrs: wrong}, api.ErrArg},
		{"A, a pointer", api.Frame{Kind: api.FUpd, A: 1, Ptrs: wrong}, api.ErrArg},
		{"a pointer", api.Frame{Kind: api.FUpd, Ptrs: wrong}, api.ErrRange},
		{"both pointers", api.Frame{Kind: api.FArgs, Ptrs: []int{524289, -1}}, api.ErrRange},
		{"nothing named", api.Frame{}, api.ErrKind},
	} {
		checkRight(t, c.what, c.f, c.want)
	}
}

// Every kind with every number of pointers, A, B and pointers that are at an end or beyond, far or near.
func TestRightOfAllEdgesTogether(t *testing.T) {
	kinds := slices.Concat(farBelow, []int{0, 1, 2, 3, 4, 5, 6, 7, 8, 16, 17}, farAbove)
	counts := []int{0, 1, 2, 3, 4, 8, 9, 1000, 1001}
	as := []int{math.MinInt, -1 << 32, -1, 0, 1, 2, 7, 15, 16, 17, 1<<19 + 1, 1<<20 - 1, 1 << 20, 1<<32 + 1, math.MaxInt}
	bs := []int{math.MinInt, -1 << 32, -1, 0, 1, 2, 3, 6, 7, 8, 16, 1 << 32, 1<<32 + 2, math.MaxInt}
	ends := []int{math.MinInt, -1, 0, 524288, 524289, 1 << 32, math.MaxInt}
	for _, n := range counts {
		for _, p := range ends {
			ptrs := pointers(n)
			if n > 0 {
				ptrs[n-1] = p
			}
			for _, kind := range kinds {
				for _, a := range as {
					for _, b := range bs {
						f := api.Frame{Kind: kind, A: a, B: b, Ptrs: ptrs}
						if e, want := stack.Right(f), rightByRule(f); e != want {
							t.Fatalf("Right of kind %d, A %d, B %d, %d pointers, the last %d: error %d; want %d", kind, a, b, n, p, int(e), int(want))
						}
					}
				}
			}
		}
	}
}

func TestRightTakesNilAndEmptyListsAlike(t *testing.T) {
	for kind := -1; kind <= 6; kind++ {
		f := api.Frame{Kind: kind, A: 1}
		bare := stack.Right(f)
		f.Ptrs = []int{}
		checkRight(t, "an empty list", f, bare)
		f.Ptrs = make([]int, 0, 12)
		checkRight(t, "an empty list with spare room", f, bare)
	}
}

func TestRightLeavesAFrameAsItIs(t *testing.T) {
	room := []int{7, 524289, -3, 9}
	for n := range len(room) + 1 {
		stack.Right(api.Frame{Kind: api.FArgs, Ptrs: room[:n]})
	}
	if !slices.Equal(room, []int{7, 524289, -3, 9}) {
		t.Errorf("the list is %v behind Right", room)
	}
}
