package shape_test

import (
	"iter"
	"math"
	"slices"
	"testing"

	"midden/api"
	"midden/shape"
)

// Numbers of int that no field of a right header takes, from all over its range; the lower half of some is a number that one takes.
var farNumbers = []int{math.MinInt, math.MinInt + 1, math.MinInt + 2, -1 << 62, -1 << 32, -1<<32 + 1, -1<<32 + 6, -1 << 31, -1 << 20, -4096, -4095, -256, -2, -1, 1 << 20, 1<<20 + 1, 1<<31 - 1, 1 << 31, 1<<32 - 1, 1 << 32, 1<<32 + 1, 1<<32 + 6, 1 << 62, math.MaxInt - 4095, math.MaxInt - 1, math.MaxInt}

var (
	allKinds   = []int{1, 2, 3, 4, 5, 6, 7, 8, 9, 10, 11, 12}
	wrongKinds = slices.Concat([]int{0, 13, 14, 15, 16, 17, 22, 256 + 6}, farNumbers)
	withInfo   = []int{1, 3, 6, 7}
	values     = []int{1, 2, 3, 4, 10, 11}
	thunks     = []int{5, 6, 7}
	passes     = []int{8, 9, 12}
)

// counts is what a kind has, by the chapter's table in numbers: from the fewest pointers and other words to the most.
type counts struct {
	kind             int
	minPtrs, maxPtrs int
	minNons, maxNons int
}

// A KThunk that needs nothing, and one that needs something, stand apart: no other kind has counts that hang on one another.
var table = []counts{
	{kind: 1, minPtrs: 0, maxPtrs: 8},
	{kind: 2, minNons: 1, maxNons: 1},
	{kind: 3, minPtrs: 0, maxPtrs: 255},
	{kind: 4, minPtrs: 2, maxPtrs: 9},
	{kind: 5, minPtrs: 2, maxPtrs: 9},
	{kind: 6, minNons: 1, maxNons: 1},
	{kind: 6, minPtrs: 1, maxPtrs: 255},
	{kind: 7, minPtrs: 1, maxPtrs: 1, minNons: 1, maxNons: 1},
	{kind: 8, minPtrs: 1, maxPtrs: 1, minNons: 0, maxNons: 4094},
	{kind: 9, minNons: 1, maxNons: 4095},
	{kind: 10, minPtrs: 1, maxPtrs: 1},
	{kind: 11, minPtrs: 0, maxPtrs: 1024},
	{kind: 12, minNons: 1, maxNons: 4095},
}

// rule says by the table what Right answers.
func rule(h api.Head) api.Errno {
	if !slices.Contains(allKinds, h.Kind) {
		return api.ErrKind
	}
	fits := func(c counts) bool {
		return c.kind == h.Kind && h.Ptrs >= c.minPtrs && h.Ptrs <= c.maxPtrs && h.Nons >= c.minNons && h.Nons <= c.maxNons
	}
	if !slices.ContainsFunc(table, fits) {
		return api.ErrSize
	}
	if h.Info != 0 && !(slices.Contains(withInfo, h.Kind) && h.Info > 0 && h.Info <= 1048575) {
		return api.ErrArg
	}
	return api.OK
}

// rightHeads tells right headers of all kinds: the fewest and the most parts, what is next to these, and some between; each with the edges of Info that it may have.
func rightHeads() []api.Head {
	var heads []api.Head
	for _, c := range table {
		for _, ptrs := range within(c.minPtrs, c.maxPtrs) {
			for _, nons := range within(c.minNons, c.maxNons) {
				for _, info := range infosOf(c.kind) {
					heads = append(heads, api.Head{Kind: c.kind, Info: info, Ptrs: ptrs, Nons: nons})
				}
			}
		}
	}
	return heads
}

func within(least, most int) []int {
	var list []int
	for _, n := range []int{least, least + 1, least + 2, (least + most) / 2, most - 1, most} {
		if n >= least && n <= most && !slices.Contains(list, n) {
			list = append(list, n)
		}
	}
	return list
}

func infosOf(kind int) []int {
	if slices.Contains(withInfo, kind) {
		return []int{0, 1, 3, 1048574, 1048575}
	}
	return []int{0}
}

// wrongHeads tells a header for each fault that a right one may get: of its kind, of one count or both, of its Info.
func wrongHeads() []api.Head {
	var heads []api.Head
	take := func(h api.Head) {
		if rule(h) != api.OK {
			heads = append(heads, h)
		}
	}
	for _, h := range rightHeads() {
		for _, kind := range append(wrongKinds, allKinds...) {
			take(api.Head{Kind: kind, Info: h.Info, Ptrs: h.Ptrs, Nons: h.Nons})
		}
		for _, n := range append([]int{0, 1, 2, 9, 10, 255, 256, 1024, 1025, 4094, 4095, 4096}, farNumbers...) {
			take(api.Head{Kind: h.Kind, Info: n, Ptrs: h.Ptrs, Nons: h.Nons})
			take(api.Head{Kind: h.Kind, Info: h.Info, Ptrs: n, Nons: h.Nons})
			take(api.Head{Kind: h.Kind, Info: h.Info, Ptrs: h.Ptrs, Nons: n})
			take(api.Head{Kind: h.Kind, Info: h.Info, Ptrs: n, Nons: n})
		}
	}
	return heads
}

func list(s iter.Seq[int]) []int {
	var places []int
	for at := range s {
		places = append(places, at)
	}
	return places
}

// rising tells 1 to n, by sums alone.
func rising(n int) []int {
	var places []int
	for at := 1; at <= n; at++ {
		places = append(places, at)
	}
	return places
}

func checkRight(t *testing.T, h api.Head, want api.Errno) {
	t.Helper()
	if e := shape.Right(h); e != want {
		t.Errorf("Right(%+v): error %d; want %d", h, int(e), int(want))
	}
}

func checkOver(t *testing.T, h api.Head, kind int, want api.Head, wantError api.Errno) {
	t.Helper()
	if x, e := shape.Over(h, kind); x != want || e != wantError {
		t.Errorf("Over(%+v, %d) = %+v, error %d; want %+v, %d", h, kind, x, int(e), want, int(wantError))
	}
}

func checkOverRefuses(t *testing.T, h api.Head, kind int, want api.Errno) {
	t.Helper()
	checkOver(t, h, kind, api.Head{}, want)
}

func checkPlaces(t *testing.T, h api.Head, got, want []int) {
	t.Helper()
	if !slices.Equal(got, want) {
		t.Errorf("Pointers(%+v): %v; want %v", h, got, want)
	}
}

// P4.1

func TestRightExampleOfTheChapter(t *testing.T) {
	checkRight(t, api.Head{Kind: api.KThunk, Info: 3, Ptrs: 0, Nons: 1}, api.OK)
	checkRight(t, api.Head{Kind: api.KThunk, Info: 3, Ptrs: 0, Nons: 0}, api.ErrSize)
}

// The edges of the table, one by one: what may be, and what is one less or one more.
func TestRightAtTheEdgesOfEachKind(t *testing.T) {
	for _, c := range []struct {
		kind  int
		right [][2]int
		wrong [][2]int
	}{
		{api.KCon, [][2]int{{0, 0}, {8, 0}}, [][2]int{{-1, 0}, {9, 0}, {0, -1}, {0, 1}, {8, 1}}},
		{api.KInt, [][2]int{{0, 1}}, [][2]int{{-1, 1}, {1, 1}, {0, 0}, {0, 2}, {1, 0}}},
		{api.KFun, [][2]int{{0, 0}, {255, 0}}, [][2]int{{-1, 0}, {256, 0}, {0, -1}, {0, 1}, {255, 1}}},
		{api.KPap, [][2]int{{2, 0}, {9, 0}}, [][2]int{{0, 0}, {1, 0}, {10, 0}, {2, -1}, {2, 1}, {9, 1}, {1, 1}}},
		{api.KAp, [][2]int{{2, 0}, {9, 0}}, [][2]int{{0, 0}, {1, 0}, {10, 0}, {2, -1}, {2, 1}, {9, 1}, {1, 1}}},
		{api.KThunk, [][2]int{{0, 1}, {1, 0}, {2, 0}, {255, 0}}, [][2]int{{0, 0}, {0, 2}, {0, -1}, {-1, 1}, {-1, 0}, {1, 1}, {255, 1}, {1, -1}, {256, 0}}},
		{api.KSel, [][2]int{{1, 1}}, [][2]int{{0, 1}, {2, 1}, {1, 0}, {1, 2}, {0, 0}, {2, 0}, {0, 2}}},
		{api.KInd, [][2]int{{1, 0}, {1, 1}, {1, 4093}, {1, 4094}}, [][2]int{{0, 0}, {2, 0}, {0, 1}, {1, -1}, {1, 4095}, {0, 4095}, {2, 4093}, {1, 4096}}},
		{api.KHole, [][2]int{{0, 1}, {0, 2}, {0, 4094}, {0, 4095}}, [][2]int{{0, 0}, {-1, 1}, {1, 1}, {1, 0}, {0, -1}, {0, 4096}, {1, 4094}, {-1, 4096}}},
		{api.KRef, [][2]int{{1, 0}}, [][2]int{{0, 0}, {2, 0}, {1, -1}, {1, 1}, {0, 1}}},
		{api.KArr, [][2]int{{0, 0}, {1, 0}, {1023, 0}, {1024, 0}}, [][2]int{{-1, 0}, {1025, 0}, {0, -1}, {0, 1}, {1024, 1}, {4095, 0}}},
		{api.KFail, [][2]int{{0, 1}, {0, 2}, {0, 4094}, {0, 4095}}, [][2]int{{0, 0}, {-1, 1}, {1, 1}, {1, 0}, {0, -1}, {0, 4096}, {1, 4094}, {-1, 4096}}},
	} {
		for _, p := range c.right {
			checkRight(t, api.Head{Kind: c.kind, Ptrs: p[0], Nons: p[1]}, api.OK)
		}
		for _, p := range c.wrong {
			checkRight(t, api.Head{Kind: c.kind, Ptrs: p[0], Nons: p[1]}, api.ErrSize)
		}
	}
}

// All counts around those that may be, of kinds that there are and of the next ones that there aren't.
func TestRightOfEveryCount(t *testing.T) {
	for kind := -1; kind <= 14; kind++ {
		for few := -3; few <= 12; few++ {
			for many := -3; many <= 4100; many++ {
				for _, h := range []api.Head{{Kind: kind, Ptrs: few, Nons: many}, {Kind: kind, Ptrs: many, Nons: few}} {
					if e := shape.Right(h); e != rule(h) {
						t.Fatalf("Right(%+v): error %d; want %d", h, int(e), int(rule(h)))
					}
				}
			}
		}
	}
}

func TestRightOfMorePartsThanAClosureHas(t *testing.T) {
	for _, kind := range allKinds {
		for _, p := range [][2]int{{1, 4095}, {2048, 2048}, {4095, 1}, {4096, 0}, {0, 4096}, {4095, 4095}} {
			checkRight(t, api.Head{Kind: kind, Ptrs: p[0], Nons: p[1]}, api.ErrSize)
		}
	}
}

func TestRightOfInfos(t *testing.T) {
	for _, c := range table {
		h := api.Head{Kind: c.kind, Ptrs: c.maxPtrs, Nons: c.maxNons}
		inner := api.ErrArg
		if slices.Contains(withInfo, c.kind) {
			inner = api.OK
		}
		for _, x := range []struct {
			info int
			want api.Errno
		}{
			{0, api.OK}, {1, inner}, {2, inner}, {9, inner}, {1 << 19, inner}, {1<<20 - 2, inner}, {1<<20 - 1, inner},
			{1 << 20, api.ErrArg}, {1<<20 + 1, api.ErrArg}, {-1, api.ErrArg}, {-1 << 20, api.ErrArg},
		} {
			h.Info = x.info
			checkRight(t, h, x.want)
		}
		for _, h.Info = range farNumbers {
			checkRight(t, h, api.ErrArg)
		}
	}
}

func TestRightOfKindsThatThereAreNot(t *testing.T) {
	for _, kind := range wrongKinds {
		for _, p := range [][2]int{{0, 0}, {1, 0}, {0, 1}, {1, 1}, {2, 0}} {
			checkRight(t, api.Head{Kind: kind, Ptrs: p[0], Nons: p[1]}, api.ErrKind)
		}
	}
}

// Counts whose sum leaves the range of int, or comes back into that of the table.
func TestRightOfFarCounts(t *testing.T) {
	near := []int{0, 1, 2, 4095}
	for _, kind := range allKinds {
		for _, far := range farNumbers {
			for _, n := range slices.Concat(near, farNumbers) {
				checkRight(t, api.Head{Kind: kind, Ptrs: far, Nons: n}, api.ErrSize)
				checkRight(t, api.Head{Kind: kind, Ptrs: n, Nons: far}, api.ErrSize)
			}
			checkRight(t, api.Head{Kind: kind, Ptrs: far, Nons: 1 - far}, api.ErrSize)
			checkRight(t, api.Head{Kind: kind, Ptrs: 2 - far, Nons: far}, api.ErrSize)
		}
	}
}

func TestRightTellsTheFirstError(t *testing.T) {
	for _, kind := range wrongKinds {
		checkRight(t, api.Head{Kind: kind, Info: -1, Ptrs: -1, Nons: -1}, api.ErrKind)
		checkRight(t, api.Head{Kind: kind, Info: 1 << 20}, api.ErrKind)
		checkRight(t, api.Head{Kind: kind, Ptrs: 4096}, api.ErrKind)
		checkRight(t, api.Head{Kind: kind, Info: math.MinInt, Ptrs: math.MaxInt, Nons: math.MaxInt}, api.ErrKind)
	}
	for _, kind := range allKinds {
		for _, info := range []int{-1, 1, 1 << 20, math.MinInt, math.MaxInt} {
			checkRight(t, api.Head{Kind: kind, Info: info, Ptrs: 4096}, api.ErrSize)
			checkRight(t, api.Head{Kind: kind, Info: info, Ptrs: 1, Nons: 4095}, api.ErrSize)
			checkRight(t, api.Head{Kind: kind, Info: info, Nons: -1}, api.ErrSize)
			checkRight(t, api.Head{Kind: kind, Info: info, Ptrs: -1, Nons: -1}, api.ErrSize)
		}
	}
	checkRight(t, api.Head{Kind: api.KThunk, Info: 1 << 20}, api.ErrSize)
	checkRight(t, api.Head{Kind: api.KThunk, Info: -1, Ptrs: 1, Nons: 1}, api.ErrSize)
}

func TestRightOfEachFault(t *testing.T) {
	heads := wrongHeads()
	if len(heads) < 1000 {
		t.Fatalf("%d wrong headers alone", len(heads))
	}
	for _, h := range heads {
		checkRight(t, h, rule(h))
	}
	for _, h := range rightHeads() {
		checkRight(t, h, api.OK)
	}
}

// P4.2

func TestSizeOfRightHeaders(t *testing.T) {
	for _, c := range []struct {
		head api.Head
		want int
	}{
		{api.Head{Kind: api.KCon}, 1},
		{api.Head{Kind: api.KCon, Info: 7, Ptrs: 8}, 9},
		{api.Head{Kind: api.KInt, Nons: 1}, 2},
		{api.Head{Kind: api.KFun}, 1},
		{api.Head{Kind: api.KFun, Info: 1<<20 - 1, Ptrs: 255}, 256},
		{api.Head{Kind: api.KPap, Ptrs: 2}, 3},
		{api.Head{Kind: api.KAp, Ptrs: 9}, 10},
		{api.Head{Kind: api.KThunk, Nons: 1}, 2},
		{api.Head{Kind: api.KThunk, Ptrs: 1}, 2},
		{api.Head{Kind: api.KThunk, Info: 3, Ptrs: 255}, 256},
		{api.Head{Kind: api.KSel, Info: 3, Ptrs: 1, Nons: 1}, 3},
		{api.Head{Kind: api.KInd, Ptrs: 1}, 2},
		{api.Head{Kind: api.KInd, Ptrs: 1, Nons: 4094}, 4096},
		{api.Head{Kind: api.KHole, Nons: 1}, 2},
		{api.Head{Kind: api.KHole, Nons: 4095}, 4096},
		{api.Head{Kind: api.KRef, Ptrs: 1}, 2},
		{api.Head{Kind: api.KArr}, 1},
		{api.Head{Kind: api.KArr, Ptrs: 1024}, 1025},
		{api.Head{Kind: api.KFail, Nons: 4095}, 4096},
	} {
		if n := shape.Size(c.head); n != c.want {
			t.Errorf("Size(%+v) = %d; want %d", c.head, n, c.want)
		}
	}
	for _, h := range rightHeads() {
		if n := shape.Size(h); n != 1+h.Ptrs+h.Nons {
			t.Errorf("Size(%+v) = %d; want %d", h, n, 1+h.Ptrs+h.Nons)
		}
	}
}

func TestSizeOfOtherHeadersIsNothing(t *testing.T) {
	if n := shape.Size(api.Head{}); n != 0 {
		t.Errorf("Size of no header = %d; want 0", n)
	}
	for _, h := range wrongHeads() {
		if n := shape.Size(h); n != 0 {
			t.Errorf("Size(%+v) = %d; want 0", h, n)
		}
	}
}

func TestValueAndThunk(t *testing.T) {
	for _, kind := range slices.Concat(allKinds, wrongKinds) {
		if got, want := shape.Value(kind), slices.Contains(values, kind); got != want {
			t.Errorf("Value(%d) = %v; want %v", kind, got, want)
		}
		if got, want := shape.Thunk(kind), slices.Contains(thunks, kind); got != want {
			t.Errorf("Thunk(%d) = %v; want %v", kind, got, want)
		}
	}
}

// P4.3

func TestOverExampleOfTheChapter(t *testing.T) {
	h := api.Head{Kind: api.KThunk, Info: 3, Ptrs: 2}
	checkOver(t, h, api.KInd, api.Head{Kind: api.KInd, Ptrs: 1, Nons: 1}, api.OK)
	checkOver(t, h, api.KHole, api.Head{Kind: api.KHole, Nons: 2}, api.OK)
}

// The smallest and the largest closures that may be passed, with the words that each has behind its header.
func TestOverOfTheSmallestAndTheLargest(t *testing.T) {
	for _, c := range []struct {
		head  api.Head
		words int
	}{
		{api.Head{Kind: api.KAp, Ptrs: 2}, 2},
		{api.Head{Kind: api.KAp, Ptrs: 9}, 9},
		{api.Head{Kind: api.KThunk, Info: 1<<20 - 1, Nons: 1}, 1},
		{api.Head{Kind: api.KThunk, Ptrs: 1}, 1},
		{api.Head{Kind: api.KThunk, Info: 5, Ptrs: 255}, 255},
		{api.Head{Kind: api.KSel, Info: 1<<20 - 1, Ptrs: 1, Nons: 1}, 2},
		{api.Head{Kind: api.KHole, Nons: 1}, 1},
		{api.Head{Kind: api.KHole, Nons: 2}, 2},
		{api.Head{Kind: api.KHole, Nons: 4095}, 4095},
	} {
		checkOver(t, c.head, api.KInd, api.Head{Kind: api.KInd, Ptrs: 1, Nons: c.words - 1}, api.OK)
		checkOver(t, c.head, api.KHole, api.Head{Kind: api.KHole, Nons: c.words}, api.OK)
		checkOver(t, c.head, api.KFail, api.Head{Kind: api.KFail, Nons: c.words}, api.OK)
	}
}

// wantOver says by the chapter's words what Over answers of a right header.
func wantOver(h api.Head, kind int) (api.Head, api.Errno) {
	switch {
	case !slices.Contains(passes, kind), !slices.Contains(thunks, h.Kind) && h.Kind != api.KHole:
		return api.Head{}, api.ErrKind
	case kind == api.KInd:
		return api.Head{Kind: kind, Ptrs: 1, Nons: h.Ptrs + h.Nons - 1}, api.OK
	}
	return api.Head{Kind: kind, Nons: h.Ptrs + h.Nons}, api.OK
}

func TestOverOfEachKindToEachKind(t *testing.T) {
	for _, h := range rightHeads() {
		for _, kind := range slices.Concat(allKinds, wrongKinds) {
			want, e := wantOver(h, kind)
			checkOver(t, h, kind, want, e)
		}
	}
}

func TestOverTellsRightsError(t *testing.T) {
	for _, h := range wrongHeads() {
		for _, kind := range passes {
			checkOverRefuses(t, h, kind, rule(h))
		}
	}
}

func TestOverTellsTheFirstError(t *testing.T) {
	tooMany := api.Head{Kind: api.KThunk, Ptrs: 256}
	wrongInfo := api.Head{Kind: api.KThunk, Info: 1 << 20, Ptrs: 2}
	bigValue := api.Head{Kind: api.KInt, Nons: 2}
	infoOfAValue := api.Head{Kind: api.KRef, Info: 1, Ptrs: 1}
	for _, kind := range slices.Concat(wrongKinds, values, thunks) {
		for _, h := range []api.Head{{}, tooMany, wrongInfo, bigValue, infoOfAValue} {
			checkOverRefuses(t, h, kind, api.ErrKind)
		}
	}
	for _, kind := range passes {
		checkOverRefuses(t, api.Head{}, kind, api.ErrKind)
		checkOverRefuses(t, tooMany, kind, api.ErrSize)
		checkOverRefuses(t, wrongInfo, kind, api.ErrArg)
		checkOverRefuses(t, bigValue, kind, api.ErrSize)
		checkOverRefuses(t, infoOfAValue, kind, api.ErrArg)
		checkOverRefuses(t, api.Head{Kind: api.KInd, Ptrs: 1, Nons: 4095}, kind, api.ErrSize)
		checkOverRefuses(t, api.Head{Kind: api.KFail, Info: 1, Nons: 1}, kind, api.ErrArg)
		checkOverRefuses(t, api.Head{Kind: api.KHole, Info: 1, Nons: 1}, kind, api.ErrArg)
		checkOverRefuses(t, api.Head{Kind: api.KHole}, kind, api.ErrSize)
	}
}

// P4.4

func TestPointersOfRightHeaders(t *testing.T) {
	for _, c := range []struct {
		head api.Head
		want []int
	}{
		{api.Head{Kind: api.KPap, Ptrs: 3}, []int{1, 2, 3}},
		{api.Head{Kind: api.KSel, Ptrs: 1, Nons: 1}, []int{1}},
		{api.Head{Kind: api.KInd, Ptrs: 1, Nons: 4094}, []int{1}},
		{api.Head{Kind: api.KCon, Info: 4, Ptrs: 2}, []int{1, 2}},
		{api.Head{Kind: api.KCon}, nil},
		{api.Head{Kind: api.KInt, Nons: 1}, nil},
		{api.Head{Kind: api.KThunk, Nons: 1}, nil},
		{api.Head{Kind: api.KHole, Nons: 4095}, nil},
		{api.Head{Kind: api.KArr}, nil},
	} {
		checkPlaces(t, c.head, list(shape.Pointers(c.head)), c.want)
	}
	for _, h := range rightHeads() {
		checkPlaces(t, h, list(shape.Pointers(h)), rising(h.Ptrs))
	}
}

func TestPointersOfOtherHeaders(t *testing.T) {
	for _, h := range append(wrongHeads(), api.Head{}, api.Head{Kind: api.KPap, Ptrs: math.MaxInt}) {
		for at := range shape.Pointers(h) {
			t.Errorf("Pointers(%+v) tells %d", h, at)
			break
		}
	}
}

func TestPointersAreLeftAnywhereAndGoneOverAgain(t *testing.T) {
	h := api.Head{Kind: api.KAp, Ptrs: 5}
	places := shape.Pointers(h)
	for leave := 1; leave <= 6; leave++ {
		var got []int
		for at := range places {
			got = append(got, at)
			if at == leave {
				break
			}
		}
		checkPlaces(t, h, got, rising(min(leave, 5)))
		checkPlaces(t, h, list(places), rising(5))
	}
}

func TestPointersWithinPointers(t *testing.T) {
	h := api.Head{Kind: api.KArr, Ptrs: 4}
	places := shape.Pointers(h)
	var outer []int
	for at := range places {
		outer = append(outer, at)
		checkPlaces(t, h, list(places), rising(4))
	}
	checkPlaces(t, h, outer, rising(4))
}

// A range is made for the header that it was asked of, whatever becomes of the variable.
func TestPointersOfAHeaderThatChanges(t *testing.T) {
	h := api.Head{Kind: api.KFun, Ptrs: 3}
	places := shape.Pointers(h)
	var got []int
	for at := range places {
		got = append(got, at)
		h = api.Head{Kind: api.KCon, Ptrs: 1}
	}
	checkPlaces(t, h, got, rising(3))
	checkPlaces(t, h, list(places), rising(3))
	checkPlaces(t, h, list(shape.Pointers(h)), rising(1))
}

func TestTwoHeadersRangesAreApart(t *testing.T) {
	few, many := api.Head{Kind: api.KCon, Ptrs: 2}, api.Head{Kind: api.KArr, Ptrs: 1024}
	a, b := shape.Pointers(few), shape.Pointers(many)
	checkPlaces(t, many, list(b), rising(1024))
	checkPlaces(t, few, list(a), rising(2))
}

// P4.5

func TestOverIsRightAndAsLarge(t *testing.T) {
	taken := 0
	for _, h := range rightHeads() {
		for _, kind := range passes {
			x, e := shape.Over(h, kind)
			if e != api.OK {
				continue
			}
			taken++
			checkRight(t, x, api.OK)
			if shape.Size(x) != shape.Size(h) {
				t.Errorf("Over(%+v, %d) = %+v of size %d; want %d", h, kind, x, shape.Size(x), shape.Size(h))
			}
		}
	}
	if taken < 100 {
		t.Errorf("Over took %d headers alone", taken)
	}
}

// Every size that a hole may have: as a hole it stays what it is, as another kind it is as large.
func TestOverOfEveryHole(t *testing.T) {
	for words := 1; words <= 4095; words++ {
		h := api.Head{Kind: api.KHole, Nons: words}
		checkOver(t, h, api.KHole, h, api.OK)
		for _, kind := range []int{api.KInd, api.KFail} {
			x, e := shape.Over(h, kind)
			if e != api.OK || shape.Right(x) != api.OK || shape.Size(x) != words+1 || x.Kind != kind {
				t.Fatalf("Over(%+v, %d) = %+v, error %d", h, kind, x, int(e))
			}
		}
	}
}

// A thunk becomes a hole, and that one of the other kinds; what is one of these is passed no more.
func TestOverOfWhatWasPassed(t *testing.T) {
	for _, h := range []api.Head{{Kind: api.KAp, Ptrs: 2}, {Kind: api.KThunk, Nons: 1}, {Kind: api.KSel, Ptrs: 1, Nons: 1}} {
		hole, e := shape.Over(h, api.KHole)
		if e != api.OK {
			t.Fatalf("Over(%+v, %d): error %d", h, api.KHole, int(e))
		}
		for _, kind := range []int{api.KInd, api.KFail} {
			x, e := shape.Over(hole, kind)
			if e != api.OK || shape.Size(x) != shape.Size(h) {
				t.Errorf("Over(%+v, %d) = %+v, error %d", hole, kind, x, int(e))
			}
			for _, again := range passes {
				checkOverRefuses(t, x, again, api.ErrKind)
			}
		}
	}
}
