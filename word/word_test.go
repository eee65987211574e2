package word_test

import (
	"math"
	"testing"

	"midden/api"
	"midden/word"
)

// The edges of each field of a header that may be.
var (
	kinds = []int{1, 2, 3, 4, 5, 6, 7, 8, 9, 10, 11, 12}
	infos = []int{0, 1, 2, 9, 1<<19 - 1, 1 << 19, 1<<20 - 2, 1<<20 - 1}
	parts = [][2]int{{0, 0}, {1, 0}, {0, 1}, {2, 0}, {1, 1}, {3, 9}, {255, 1}, {2047, 2048}, {2048, 2047}, {4095, 0}, {0, 4095}, {4094, 1}, {1, 4094}, {4094, 0}, {0, 4094}}
)

// Numbers of int that no field takes, from all over its range.
var farNumbers = []int{math.MinInt, math.MinInt + 1, -1 << 49, -1 << 32, -1 << 20, -4096, -4095, -2, -1, 1 << 20, 1<<20 + 1, 1 << 31, 1 << 32, 1<<32 + 1, 1 << 49, 1 << 62, math.MaxInt - 1, math.MaxInt}

// headsThatMayBe tells headers of all kinds at all edges.
func headsThatMayBe() []api.Head {
	var heads []api.Head
	for _, kind := range kinds {
		for _, info := range infos {
			for _, p := range parts {
				heads = append(heads, api.Head{Kind: kind, Info: info, Ptrs: p[0], Nons: p[1]})
			}
		}
	}
	return heads
}

// sumOf works a header's word out by sums alone, so that it shares nothing with how the package does it.
func sumOf(h api.Head) uint64 {
	return 1 + 2*uint64(h.Kind) + 32*uint64(h.Ptrs) + 131072*uint64(h.Nons) + 536870912*uint64(h.Info)
}

// oddWords tells words from all over the range, with each bit set and not set in many of them.
func oddWords() []uint64 {
	words := []uint64{0, math.MaxUint64}
	for bit := range 64 {
		words = append(words, 1<<bit, 1<<bit-1, ^uint64(0)<<bit, 67^1<<bit)
	}
	w := uint64(1)
	for range 20000 {
		w = w*6364136223846793005 + 1442695040888963407
		words = append(words, w, w>>15, w>>15|1, w>>44)
	}
	return words
}

func checkPackRefuses(t *testing.T, h api.Head, want api.Errno) {
	t.Helper()
	if w, e := word.Pack(h); e != want || w != 0 {
		t.Errorf("Pack(%+v) = %d, %d; want 0, %d", h, w, int(e), int(want))
	}
}

func checkUnpackRefuses(t *testing.T, w uint64, want api.Errno) {
	t.Helper()
	if h, e := word.Unpack(w); e != want || h != (api.Head{}) {
		t.Errorf("Unpack(%#x) = %+v, %d; want nothing, %d", w, h, int(e), int(want))
	}
}

// P1.1

func TestPackLaysEachField(t *testing.T) {
	for _, c := range []struct {
		head api.Head
		want uint64
	}{
		{api.Head{Kind: 1, Ptrs: 2}, 67},
		{api.Head{Kind: 1}, 0x3},
		{api.Head{Kind: 12}, 0x19},
		{api.Head{Kind: 1, Ptrs: 1}, 0x23},
		{api.Head{Kind: 1, Ptrs: 4095}, 0x1ffe3},
		{api.Head{Kind: 1, Nons: 1}, 0x20003},
		{api.Head{Kind: 1, Nons: 4095}, 0x1ffe0003},
		{api.Head{Kind: 1, Info: 1}, 0x20000003},
		{api.Head{Kind: 1, Info: 1<<20 - 1}, 0x1ffffe0000003},
		{api.Head{Kind: 6, Info: 9, Ptrs: 3}, 0x12000006d},
		{api.Head{Kind: 12, Info: 1<<20 - 1, Ptrs: 2047, Nons: 2048}, 0x1fffff000fff9},
	} {
		if w, e := word.Pack(c.head); w != c.want || e != api.OK {
			t.Errorf("Pack(%+v) = %#x, %d; want %#x", c.head, w, int(e), c.want)
		}
	}
	for _, h := range headsThatMayBe() {
		if w, e := word.Pack(h); w != sumOf(h) || e != api.OK {
			t.Fatalf("Pack(%+v) = %#x, %d; want %#x", h, w, int(e), sumOf(h))
		}
	}
}

func TestPackRefusesKinds(t *testing.T) {
	for _, kind := range append([]int{0, 13, 14, 15, 16, 17, 28, 32}, farNumbers...) {
		checkPackRefuses(t, api.Head{Kind: kind}, api.ErrKind)
	}
}

func TestPackRefusesSizes(t *testing.T) {
	for _, p := range [][2]int{
		{-1, 0}, {0, -1}, {-1, -1}, {-1, 1}, {1, -1}, {-1, 4095}, {4096, -1}, {-4095, 4095},
		{4096, 0}, {0, 4096}, {4095, 1}, {1, 4095}, {2048, 2048}, {4095, 4095}, {4096, 4096},
		{math.MaxInt, math.MaxInt}, {math.MaxInt, 1}, {1, math.MaxInt}, {math.MinInt, math.MinInt},
		{math.MinInt, math.MaxInt}, {math.MaxInt, math.MinInt}, {math.MinInt, 0}, {0, math.MinInt},
		{math.MaxInt, math.MaxInt - 1}, {1 << 62, 1 << 62}, {1 << 32, 1 << 32},
	} {
		checkPackRefuses(t, api.Head{Kind: 1, Ptrs: p[0], Nons: p[1]}, api.ErrSize)
	}
	for _, n := range farNumbers {
		checkPackRefuses(t, api.Head{Kind: 12, Ptrs: n}, api.ErrSize)
		checkPackRefuses(t, api.Head{Kind: 12, Nons: n}, api.ErrSize)
		checkPackRefuses(t, api.Head{Kind: 12, Ptrs: n, Nons: n}, api.ErrSize)
		checkPackRefuses(t, api.Head{Kind: 12, Ptrs: 4095, Nons: n}, api.ErrSize)
	}
}

func TestPackRefusesInfos(t *testing.T) {
	for _, info := range farNumbers {
		checkPackRefuses(t, api.Head{Kind: 1, Info: info}, api.ErrArg)
		checkPackRefuses(t, api.Head{Kind: 12, Info: info, Ptrs: 1, Nons: 4094}, api.ErrArg)
	}
}

func TestPackTellsTheFirstError(t *testing.T) {
	checkPackRefuses(t, api.Head{Kind: 0, Ptrs: -1, Info: -1}, api.ErrKind)
	checkPackRefuses(t, api.Head{Kind: 13, Nons: 4096}, api.ErrKind)
	checkPackRefuses(t, api.Head{Kind: 13, Info: 1 << 20}, api.ErrKind)
	checkPackRefuses(t, api.Head{Kind: 1, Ptrs: 4095, Nons: 1, Info: 1 << 20}, api.ErrSize)
	checkPackRefuses(t, api.Head{Kind: 12, Ptrs: -1, Info: -1}, api.ErrSize)
}

// P1.2

func TestUnpackReadsEachField(t *testing.T) {
	for _, c := range []struct {
		w    uint64
		want api.Head
	}{
		{67, api.Head{Kind: 1, Ptrs: 2}},
		{0x3, api.Head{Kind: 1}},
		{0x19, api.Head{Kind: 12}},
		{0x1ffe3, api.Head{Kind: 1, Ptrs: 4095}},
		{0x1ffe0003, api.Head{Kind: 1, Nons: 4095}},
		{0x1ffffe0000003, api.Head{Kind: 1, Info: 1<<20 - 1}},
		{0x1fffff000fff9, api.Head{Kind: 12, Info: 1<<20 - 1, Ptrs: 2047, Nons: 2048}},
	} {
		if h, e := word.Unpack(c.w); h != c.want || e != api.OK {
			t.Errorf("Unpack(%#x) = %+v, %d; want %+v", c.w, h, int(e), c.want)
		}
	}
	for _, h := range headsThatMayBe() {
		if x, e := word.Unpack(sumOf(h)); x != h || e != api.OK {
			t.Fatalf("Unpack(%#x) = %+v, %d; want %+v", sumOf(h), x, int(e), h)
		}
	}
}

func TestUnpackRefusesWhatIsNoHeader(t *testing.T) {
	for _, kind := range []int{0, 13, 14, 15} {
		checkUnpackRefuses(t, sumOf(api.Head{Kind: kind}), api.ErrKind)
		checkUnpackRefuses(t, sumOf(api.Head{Kind: kind, Info: 1<<20 - 1, Ptrs: 1, Nons: 2}), api.ErrKind)
	}
	for _, h := range headsThatMayBe() {
		checkUnpackRefuses(t, sumOf(h)-1, api.ErrKind)
		for bit := 49; bit < 64; bit++ {
			checkUnpackRefuses(t, sumOf(h)|1<<bit, api.ErrKind)
		}
	}
	checkUnpackRefuses(t, 0, api.ErrKind)
	checkUnpackRefuses(t, math.MaxUint64, api.ErrKind)
}

func TestUnpackRefusesSizes(t *testing.T) {
	for _, p := range [][2]int{{4095, 1}, {1, 4095}, {2048, 2048}, {4095, 4095}, {4094, 2}} {
		for _, kind := range kinds {
			checkUnpackRefuses(t, sumOf(api.Head{Kind: kind, Ptrs: p[0], Nons: p[1]}), api.ErrSize)
			checkUnpackRefuses(t, sumOf(api.Head{Kind: kind, Info: 1<<20 - 1, Ptrs: p[0], Nons: p[1]}), api.ErrSize)
		}
	}
}

func TestUnpackTellsTheFirstError(t *testing.T) {
	tooMany := sumOf(api.Head{Kind: 1, Ptrs: 4095, Nons: 1})
	checkUnpackRefuses(t, tooMany-1, api.ErrKind)
	checkUnpackRefuses(t, tooMany|1<<49, api.ErrKind)
	checkUnpackRefuses(t, tooMany|1<<63, api.ErrKind)
	checkUnpackRefuses(t, sumOf(api.Head{Kind: 13, Ptrs: 4095, Nons: 1}), api.ErrKind)
	checkUnpackRefuses(t, sumOf(api.Head{Kind: 0, Ptrs: 4095, Nons: 4095}), api.ErrKind)
}

// P1.3

func TestForwardIsTwiceTheAddress(t *testing.T) {
	for _, at := range []int{1, 2, 5, 63, 64, 1<<18 + 1, 1<<19 - 1, 1 << 19} {
		if w, e := word.Forward(at); w != uint64(at+at) || e != api.OK {
			t.Errorf("Forward(%d) = %d, %d", at, w, int(e))
		}
	}
}

func TestForwardRefusesWhatIsNoAddress(t *testing.T) {
	for _, at := range append([]int{0, 1<<19 + 1, 1<<19 + 2}, farNumbers...) {
		if w, e := word.Forward(at); w != 0 || e != api.ErrRange {
			t.Errorf("Forward(%d) = %d, %d; want 0, %d", at, w, int(e), int(api.ErrRange))
		}
	}
}

func TestMovedTellsTheAddress(t *testing.T) {
	for _, c := range []struct {
		w  uint64
		at int
	}{{2, 1}, {4, 2}, {10, 5}, {1<<20 - 2, 1<<19 - 1}, {1 << 20, 1 << 19}} {
		if at, ok := word.Moved(c.w); at != c.at || !ok {
			t.Errorf("Moved(%d) = %d, %v; want %d", c.w, at, ok, c.at)
		}
	}
}

func TestMovedTellsNothingOfOtherWords(t *testing.T) {
	words := []uint64{0, 1, 3, 11, 67, 1<<20 - 1, 1<<20 + 1, 1<<20 + 2, 1<<20 + 3, 1 << 21, 1 << 32, 1<<32 + 2, 1 << 63, 1<<63 + 2, math.MaxUint64 - 1, math.MaxUint64}
	for _, w := range words {
		if at, ok := word.Moved(w); at != 0 || ok {
			t.Errorf("Moved(%#x) = %d, %v; want 0, false", w, at, ok)
		}
	}
}

// P1.4

func TestBitsAndNumber(t *testing.T) {
	for _, c := range []struct {
		n int64
		w uint64
	}{
		{0, 0}, {1, 1}, {-1, math.MaxUint64}, {-2, math.MaxUint64 - 1}, {5, 5}, {-5, math.MaxUint64 - 4},
		{math.MaxInt64, 1<<63 - 1}, {math.MaxInt64 - 1, 1<<63 - 2}, {math.MinInt64, 1 << 63}, {math.MinInt64 + 1, 1<<63 + 1},
		{1 << 53, 1 << 53}, {1<<53 + 1, 1<<53 + 1}, {-1 << 32, 0xffffffff00000000},
	} {
		if w := word.Bits(c.n); w != c.w {
			t.Errorf("Bits(%d) = %#x; want %#x", c.n, w, c.w)
		}
		if n := word.Number(c.w); n != c.n {
			t.Errorf("Number(%#x) = %d; want %d", c.w, n, c.n)
		}
	}
	for _, w := range oddWords() {
		if word.Bits(word.Number(w)) != w {
			t.Fatalf("Bits(Number(%#x)) = %#x", w, word.Bits(word.Number(w)))
		}
	}
}

// P1.5

func TestUnpackOfPackIsTheHeader(t *testing.T) {
	for _, h := range headsThatMayBe() {
		w, e := word.Pack(h)
		x, f := word.Unpack(w)
		if e != api.OK || f != api.OK || x != h {
			t.Fatalf("Pack(%+v) = %#x, %d; Unpack of it = %+v, %d", h, w, int(e), x, int(f))
		}
	}
}

func TestPackOfUnpackIsTheWord(t *testing.T) {
	taken := 0
	for _, w := range oddWords() {
		h, e := word.Unpack(w)
		if e != api.OK {
			continue
		}
		taken++
		if x, f := word.Pack(h); x != w || f != api.OK {
			t.Fatalf("Unpack(%#x) = %+v; Pack of it = %#x, %d", w, h, x, int(f))
		}
	}
	if taken < 1000 {
		t.Errorf("Unpack took %d words alone", taken)
	}
}

func TestMovedOfForwardIsTheAddress(t *testing.T) {
	for at := 1; at <= api.MaxWords; at++ {
		w, e := word.Forward(at)
		if x, ok := word.Moved(w); e != api.OK || !ok || x != at {
			t.Fatalf("Forward(%d) = %d, %d; Moved of it = %d, %v", at, w, int(e), x, ok)
		}
	}
}

// P1.6

func TestNoWordIsBoth(t *testing.T) {
	for _, h := range headsThatMayBe() {
		w, _ := word.Pack(h)
		if at, ok := word.Moved(w); ok {
			t.Fatalf("the word %#x of %+v is the address %d's", w, h, at)
		}
	}
	for at := 1; at <= api.MaxWords; at++ {
		w, _ := word.Forward(at)
		checkUnpackRefuses(t, w, api.ErrKind)
	}
	for _, w := range oddWords() {
		_, e := word.Unpack(w)
		if at, ok := word.Moved(w); ok && e == api.OK {
			t.Fatalf("the word %#x is a header's and the address %d's", w, at)
		}
	}
}
