package code_test

import (
	"math"
	"slices"
	"testing"

	"midden/api"
	"midden/code"
	"midden/shape"
)

// P12.2.

// headRule says by the chapter's words what Head answers.
func headRule(m api.Make) (api.Head, api.Errno) {
	many := len(m.From)
	noInfo := m.Info < 0 || m.Info > 1048575
	switch m.Kind {
	case 1, 3:
		if many > 255 {
			return api.Head{}, 7
		}
		if noInfo {
			return api.Head{}, 2
		}
		return api.Head{Kind: m.Kind, Info: m.Info, Ptrs: many}, 0
	case 2:
		if many > 0 {
			return api.Head{}, 7
		}
		return api.Head{Kind: 2, Nons: 1}, 0
	case 6:
		if many > 255 {
			return api.Head{}, 7
		}
		if noInfo {
			return api.Head{}, 2
		}
		if many == 0 {
			return api.Head{Kind: 6, Info: m.Info, Nons: 1}, 0
		}
		return api.Head{Kind: 6, Info: m.Info, Ptrs: many}, 0
	case 7:
		if many != 1 {
			return api.Head{}, 7
		}
		if noInfo {
			return api.Head{}, 2
		}
		return api.Head{Kind: 7, Info: m.Info, Ptrs: 1, Nons: 1}, 0
	}
	return api.Head{}, 6
}

func wantHead(t *testing.T, m api.Make, h api.Head, e api.Errno) {
	t.Helper()
	was := slices.Clone(m.From[:cap(m.From)])
	for range 2 {
		if x, f := code.Head(m); x != h || f != e {
			t.Errorf("%v, %d; want %v, %d: %s", x, int(f), h, int(e), short(m))
		}
	}
	if !slices.Equal(m.From[:cap(m.From)], was) {
		t.Errorf("it was changed: %s", short(m))
	}
}

func TestHeadsByHand(t *testing.T) {
	wantHead(t, con(3, 1, 2), api.Head{Kind: api.KCon, Info: 3, Ptrs: 2}, api.OK)
	wantHead(t, con(0), api.Head{Kind: api.KCon}, api.OK)
	wantHead(t, num(7), api.Head{Kind: api.KInt, Nons: 1}, api.OK)
	wantHead(t, api.Make{Kind: api.KInt, Info: 9, N: 7}, api.Head{Kind: api.KInt, Nons: 1}, api.OK)
	wantHead(t, fun(2), api.Head{Kind: api.KFun, Info: 2}, api.OK)
	wantHead(t, fun(2, -1), api.Head{Kind: api.KFun, Info: 2, Ptrs: 1}, api.OK)
	wantHead(t, thunk(2), api.Head{Kind: api.KThunk, Info: 2, Nons: 1}, api.OK)
	wantHead(t, thunk(2, 5), api.Head{Kind: api.KThunk, Info: 2, Ptrs: 1}, api.OK)
	wantHead(t, thunk(2, 5, 6, 7), api.Head{Kind: api.KThunk, Info: 2, Ptrs: 3}, api.OK)
	wantHead(t, pick(4, 1, 0), api.Head{Kind: api.KSel, Info: 4, Ptrs: 1, Nons: 1}, api.OK)
	wantHead(t, api.Make{}, api.Head{}, api.ErrKind)
	wantHead(t, api.Make{Kind: api.KAp, From: []int{1, 2}}, api.Head{}, api.ErrKind)
	wantHead(t, api.Make{Kind: api.KInt, N: 7, From: []int{0}}, api.Head{}, api.ErrSize)
	wantHead(t, pick(4, 1), api.Head{}, api.ErrSize)
	wantHead(t, pick(4, 1, 0, 0), api.Head{}, api.ErrSize)
	wantHead(t, con(api.MaxInfo-1), api.Head{Kind: api.KCon, Info: 1<<20 - 1}, api.OK)
	wantHead(t, con(api.MaxInfo), api.Head{}, api.ErrArg)
	wantHead(t, con(-1), api.Head{}, api.ErrArg)
}

func TestHeads(t *testing.T) {
	told := map[api.Errno]int{}
	for _, kind := range someNumbers {
		for _, many := range []int{0, 1, 2, 3, 8, 9, 254, 255, 256, 257, 4096} {
			from := append(make([]int, 0, many+3), repeated(math.MaxInt, many)...)
			for _, info := range append([]int{1<<20 - 2, 1<<20 - 1}, someNumbers...) {
				m := api.Make{Kind: kind, Info: info, N: int64(info), From: from}
				h, e := headRule(m)
				wantHead(t, m, h, e)
				told[e]++
			}
		}
	}
	for _, e := range []api.Errno{api.OK, api.ErrKind, api.ErrSize, api.ErrArg} {
		if told[e] < 100 {
			t.Errorf("error %d was told %d times: too few", int(e), told[e])
		}
	}
}

// Of several faults the one that is named first: the Kind, From, Info.
func TestHeadsOfSeveralFaults(t *testing.T) {
	for _, kind := range []int{0, 4, 5, 8, 9, 10, 11, 12, 13, -1} {
		wantHead(t, api.Make{Kind: kind, Info: -1, From: make([]int, 256)}, api.Head{}, api.ErrKind)
	}
	for _, kind := range []int{api.KCon, api.KInt, api.KFun, api.KThunk, api.KSel} {
		wantHead(t, api.Make{Kind: kind, Info: -1, From: make([]int, 256)}, api.Head{}, api.ErrSize)
		wantHead(t, api.Make{Kind: kind, Info: api.MaxInfo, From: make([]int, 1<<20)}, api.Head{}, api.ErrSize)
	}
	wantHead(t, pick(-1, 0), api.Head{}, api.ErrSize)
	wantHead(t, api.Make{Kind: api.KInt, Info: math.MinInt}, api.Head{Kind: api.KInt, Nons: 1}, api.OK)
	wantHead(t, api.Make{Kind: api.KInt, From: make([]int, 0, 5)}, api.Head{Kind: api.KInt, Nons: 1}, api.OK)
}

// rightHeads holds the headers of all closures that a right code lays to be right, by chapter 4.
func rightHeads(t *testing.T, c api.Code) {
	t.Helper()
	for _, x := range c.Insns {
		for _, m := range laid(x) {
			if m.Kind == api.KInt {
				m.From = nil
			}
			h, e := code.Head(m)
			if e != api.OK || shape.Right(h) != api.OK {
				t.Errorf("%v, %d: %s", h, int(e), short(m))
			}
		}
	}
}
