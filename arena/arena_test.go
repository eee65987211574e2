package arena_test

import (
	"math"
	"slices"
	"testing"

	"midden/api"
	"midden/arena"
)

// Numbers of int that are no place and no count of any arena, from all over its range.
var (
	farBelow = []int{math.MinInt, math.MinInt + 1, -1 << 62, -1 << 32, -1<<32 + 1, -1 << 31, -1 << 19, -64, -2, -1}
	farAbove = []int{1<<19 + 1, 1 << 20, 1<<31 - 1, 1 << 31, 1<<32 - 1, 1 << 32, 1<<32 + 1, 1 << 61, 1 << 62, math.MaxInt - 8, math.MaxInt - 1, math.MaxInt}
)

// sample tells n words, each unlike the others and unlike 0, some with their upper bits set.
func sample(n int) []uint64 {
	words := make([]uint64, n)
	w := uint64(1)
	for i := range words {
		w = w*6364136223846793005 + 1442695040888963407
		words[i] = w&^0xfff | uint64(i+1)
	}
	return words
}

func made(t *testing.T, words int) *arena.Arena {
	t.Helper()
	a, e := arena.New(words)
	if e != api.OK || a == nil {
		t.Fatalf("New(%d): %v, error %d", words, a, int(e))
	}
	return a
}

// filled makes an arena that holds these words.
func filled(t *testing.T, words []uint64) *arena.Arena {
	t.Helper()
	a := made(t, len(words))
	for at, w := range words {
		if e := a.Write(at, w); e != api.OK {
			t.Fatalf("Write(%d, %d): error %d", at, w, int(e))
		}
	}
	return a
}

func checkWords(t *testing.T, what string, a *arena.Arena, want []uint64) {
	t.Helper()
	if a.Len() != len(want) {
		t.Errorf("%s: Len %d; want %d", what, a.Len(), len(want))
		return
	}
	for at, w := range want {
		if got, e := a.Read(at); got != w || e != api.OK {
			t.Errorf("%s: Read(%d) = %d, error %d; want %d", what, at, got, int(e), w)
			return
		}
	}
}

func checkErrno(t *testing.T, what string, got, want api.Errno) {
	t.Helper()
	if got != want {
		t.Errorf("%s: error %d; want %d", what, int(got), int(want))
	}
}

// rangeErrno says by the chapter's words, one word after the other, what is wrong with n words from a place on.
func rangeErrno(length, from, n int) api.Errno {
	if n < 0 {
		return api.ErrSize
	}
	if n == 0 && (from < 0 || from > length) {
		return api.ErrRange
	}
	for i := range n {
		if from+i < 0 || from+i >= length {
			return api.ErrRange
		}
	}
	return api.OK
}

// moveErrno says what is wrong with a move: with its count, else with one of its ranges.
func moveErrno(length, to, from, n int) api.Errno {
	if e := rangeErrno(length, to, n); e != api.OK {
		return e
	}
	return rangeErrno(length, from, n)
}

// moved says what a row is behind a move, from the row as it was.
func moved(was []uint64, to, from, n int) []uint64 {
	is := slices.Clone(was)
	for i := range n {
		is[to+i] = was[from+i]
	}
	return is
}

// cleared says what a row is behind a clear.
func cleared(was []uint64, from, n int) []uint64 {
	is := slices.Clone(was)
	for i := range n {
		is[from+i] = 0
	}
	return is
}

// P2.1

func TestNewMakesWordsThatAreAllNothing(t *testing.T) {
	for _, n := range []int{1, 2, 3, 4, 63, 64, 65, 4096, 1<<19 - 1, 1 << 19} {
		checkWords(t, "a new arena", made(t, n), make([]uint64, n))
	}
}

func TestNewRefusesOtherSizes(t *testing.T) {
	sizes := slices.Concat(farBelow, []int{0}, farAbove)
	for _, n := range sizes {
		if a, e := arena.New(n); a != nil || e != api.ErrSize {
			t.Errorf("New(%d): an arena %t, error %d; want none, %d", n, a != nil, int(e), int(api.ErrSize))
		}
	}
}

func TestLenStaysWhateverIsDone(t *testing.T) {
	a := made(t, 5)
	calls := []api.Errno{a.Write(4, 1), a.Move(0, 4, 1), a.Clear(0, 5), a.Write(5, 1), a.Move(1, 0, 5), a.Clear(5, 1)}
	if a.Len() != 5 {
		t.Errorf("Len %d behind %v; want 5", a.Len(), calls)
	}
}

func TestArenasShareNothing(t *testing.T) {
	a, b := filled(t, sample(6)), made(t, 6)
	checkWords(t, "the other arena", b, make([]uint64, 6))
	checkErrno(t, "Clear of the other", b.Clear(0, 6), api.OK)
	checkErrno(t, "Write into the other", b.Write(2, 9), api.OK)
	checkWords(t, "the first arena", a, sample(6))
}

// P2.2

func TestWriteLaysOneWordAndReadTellsIt(t *testing.T) {
	for _, n := range []int{1, 2, 7} {
		for at := range n {
			for _, w := range []uint64{0, 1, 67, 1 << 32, 1 << 63, math.MaxInt64, math.MaxUint64} {
				want := sample(n)
				a := filled(t, want)
				want[at] = w
				checkErrno(t, "Write", a.Write(at, w), api.OK)
				checkWords(t, "behind Write", a, want)
				checkWords(t, "read once more", a, want)
			}
		}
	}
}

func TestWriteAtTheEndsOfTheGreatestArena(t *testing.T) {
	const n = 1 << 19
	a := made(t, n)
	want := make([]uint64, n)
	want[0], want[n/2], want[n-1] = 5, 6, 7
	for _, at := range []int{0, n / 2, n - 1} {
		checkErrno(t, "Write", a.Write(at, want[at]), api.OK)
	}
	checkWords(t, "the greatest arena", a, want)
}

func TestReadAndWriteRefuseOtherPlaces(t *testing.T) {
	for _, n := range []int{1, 2, 7, 64} {
		want := sample(n)
		a := filled(t, want)
		for _, at := range slices.Concat(farBelow, []int{n, n + 1, 2 * n, 1 << 19}, farAbove) {
			if w, e := a.Read(at); w != 0 || e != api.ErrRange {
				t.Errorf("Read(%d) of %d words = %d, error %d; want 0, %d", at, n, w, int(e), int(api.ErrRange))
			}
			checkErrno(t, "Write", a.Write(at, 99), api.ErrRange)
		}
		checkWords(t, "behind what was refused", a, want)
	}
}

// P2.3

func TestExampleOfTheChapter(t *testing.T) {
	a := made(t, 4)
	checkErrno(t, "Write(1, 7)", a.Write(1, 7), api.OK)
	checkErrno(t, "Move(2, 0, 2)", a.Move(2, 0, 2), api.OK)
	checkWords(t, "behind Move(2, 0, 2)", a, []uint64{0, 7, 0, 7})
	checkErrno(t, "Clear(1, 3)", a.Clear(1, 3), api.OK)
	checkWords(t, "behind Clear(1, 3)", a, []uint64{0, 0, 0, 0})
	checkErrno(t, "Move(0, 4, 0)", a.Move(0, 4, 0), api.OK)
	checkErrno(t, "Move(0, 5, 0)", a.Move(0, 5, 0), api.ErrRange)
}

// All moves within and around rows of a few words: those that overlap either way, that end at Len or one behind it, of no words and of fewer.
func TestEveryMoveOfSmallArenas(t *testing.T) {
	for length := 1; length <= 6; length++ {
		for to := -2; to <= length+2; to++ {
			for from := -2; from <= length+2; from++ {
				for n := -2; n <= length+2; n++ {
					checkMove(t, length, to, from, n)
				}
			}
		}
	}
}

func checkMove(t *testing.T, length, to, from, n int) {
	t.Helper()
	words := sample(length)
	a := filled(t, words)
	want := moveErrno(length, to, from, n)
	if e := a.Move(to, from, n); e != want {
		t.Errorf("Move(%d, %d, %d) of %d words: error %d; want %d", to, from, n, length, int(e), int(want))
	}
	if want == api.OK {
		words = moved(words, to, from, n)
	}
	checkWords(t, "behind Move", a, words)
}

func TestEveryClearOfSmallArenas(t *testing.T) {
	for length := 1; length <= 6; length++ {
		for from := -2; from <= length+2; from++ {
			for n := -2; n <= length+2; n++ {
				checkClear(t, length, from, n)
			}
		}
	}
}

func checkClear(t *testing.T, length, from, n int) {
	t.Helper()
	words := sample(length)
	a := filled(t, words)
	want := rangeErrno(length, from, n)
	if e := a.Clear(from, n); e != want {
		t.Errorf("Clear(%d, %d) of %d words: error %d; want %d", from, n, length, int(e), int(want))
	}
	if want == api.OK {
		words = cleared(words, from, n)
	}
	checkWords(t, "behind Clear", a, words)
}

func TestMoveAndClearOfLongRanges(t *testing.T) {
	const n = 1 << 12
	words := sample(n)
	for _, m := range [][3]int{{1, 0, n - 1}, {0, 1, n - 1}, {100, 0, n - 100}, {0, 100, n - 100}, {n / 2, 0, n / 2}, {0, n / 2, n / 2}, {0, 0, n}, {n, n, 0}} {
		a := filled(t, words)
		checkErrno(t, "Move", a.Move(m[0], m[1], m[2]), api.OK)
		checkWords(t, "behind Move", a, moved(words, m[0], m[1], m[2]))
	}
	for _, c := range [][2]int{{0, n}, {1, n - 1}, {0, n - 1}, {n / 3, n / 3}, {n, 0}} {
		a := filled(t, words)
		checkErrno(t, "Clear", a.Clear(c[0], c[1]), api.OK)
		checkWords(t, "behind Clear", a, cleared(words, c[0], c[1]))
	}
}

func TestMoveAndClearOfTheGreatestArena(t *testing.T) {
	const n = 1 << 19
	want := make([]uint64, n)
	a := made(t, n)
	want[n-1] = 8
	checkErrno(t, "Write", a.Write(0, 8), api.OK)
	checkErrno(t, "Move", a.Move(n-1, 0, 1), api.OK)
	checkErrno(t, "Clear", a.Clear(0, n-1), api.OK)
	checkWords(t, "the greatest arena", a, want)
	checkErrno(t, "Move of all", a.Move(0, 0, n), api.OK)
	checkErrno(t, "Move of one more", a.Move(0, 0, n+1), api.ErrRange)
	checkErrno(t, "Clear of one more", a.Clear(0, n+1), api.ErrRange)
	checkWords(t, "the greatest arena, moved onto itself", a, want)
	checkErrno(t, "Clear of all", a.Clear(0, n), api.OK)
	checkWords(t, "the greatest arena, cleared", a, make([]uint64, n))
}

// Places and counts that are right by themselves or far from it, and whose sums leave the range of int.
func TestMoveAndClearOfFarNumbers(t *testing.T) {
	words := sample(8)
	a := filled(t, words)
	near := []int{0, 1, 7, 8, 9}
	far := slices.Concat(farBelow, farAbove)
	for _, n := range slices.Concat(near, far) {
		for _, place := range slices.Concat(near, far) {
			if slices.Contains(near, n) && slices.Contains(near, place) {
				continue
			}
			want := api.ErrRange
			if n < 0 {
				want = api.ErrSize
			}
			checkErrno(t, "Clear", a.Clear(place, n), want)
			for _, other := range slices.Concat(near, far) {
				checkErrno(t, "Move to a far place", a.Move(place, other, n), want)
				checkErrno(t, "Move from a far place", a.Move(other, place, n), want)
			}
		}
	}
	checkWords(t, "behind what was refused", a, words)
}

// P2.4

func TestNilArena(t *testing.T) {
	var a *arena.Arena
	if a.Len() != 0 {
		t.Errorf("Len %d; want 0", a.Len())
	}
	for _, x := range slices.Concat(farBelow, []int{0, 1}, farAbove) {
		if w, e := a.Read(x); w != 0 || e != api.ErrNil {
			t.Errorf("Read(%d) = %d, error %d; want 0, %d", x, w, int(e), int(api.ErrNil))
		}
		checkErrno(t, "Write", a.Write(x, 7), api.ErrNil)
		for _, y := range []int{math.MinInt, -1, 0, 1, math.MaxInt} {
			checkErrno(t, "Clear", a.Clear(x, y), api.ErrNil)
			checkErrno(t, "Clear", a.Clear(y, x), api.ErrNil)
			checkErrno(t, "Move", a.Move(x, y, 0), api.ErrNil)
			checkErrno(t, "Move", a.Move(y, x, -1), api.ErrNil)
			checkErrno(t, "Move", a.Move(y, 0, x), api.ErrNil)
		}
	}
}
