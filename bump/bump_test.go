package bump_test

import (
	"math"
	"slices"
	"testing"

	"midden/api"
	"midden/arena"
	"midden/bump"
	"midden/pool"
)

func TestExampleOfTheChapter(t *testing.T) {
	s, p, _ := made(t, 4)
	p.Alloc(1)
	checkLay(t, s, 3, 64)
	checkLay(t, s, 60, 67)
	checkLay(t, s, 2, 128)
	checkRefused(t, s, 70, api.ErrFull)
	checkLeft(t, "behind what was refused", p, 1)
	checkSpace(t, "the example", s, 2, thing{64, 3}, thing{67, 60}, thing{128, 2})
	checkFree(t, s)
	checkLeft(t, "behind Free", p, 3)
}

// P15.1

func TestNewOfWhatIsNil(t *testing.T) {
	p, a := poolOf(t, 2), arenaOf(t, 128)
	for _, c := range []struct {
		what string
		p    *pool.Pool
		a    *arena.Arena
	}{{"a nil pool", nil, a}, {"a nil arena", p, nil}, {"both nil", nil, nil}} {
		if s, e := bump.New(c.p, c.a); s != nil || e != api.ErrNil {
			t.Errorf("New of %s: a space %t, error %d; want none, error %d", c.what, s != nil, int(e), int(api.ErrNil))
		}
	}
	checkLeft(t, "behind what was refused", p, 2)
}

func TestNewHasNothing(t *testing.T) {
	for _, c := range [][2]int{{1, 64}, {1, 1}, {1, 1 << 19}, {4096, 1}, {4096, 1 << 18}, {4096, 1 << 19}} {
		p, a := poolOf(t, c[0]), arenaOf(t, c[1])
		a.Write(0, 7)
		s := spaceOf(t, p, a)
		checkSpace(t, "a new space", s, 0)
		checkHas(t, "a new space", s, 300)
		checkLeft(t, "a new space", p, c[0])
		if w, _ := a.Read(0); w != 7 {
			t.Errorf("New changed a word to %d", w)
		}
	}
}

// A pool of which all is taken, or an arena without a block's words, makes a space all the same.
func TestNewWithoutRoom(t *testing.T) {
	p, a := poolOf(t, 3), arenaOf(t, 192)
	p.Alloc(3)
	s := spaceOf(t, p, a)
	checkRefused(t, s, 1, api.ErrFull)
	checkSpace(t, "no block", s, 0)
	s = spaceOf(t, poolOf(t, 3), arenaOf(t, 63))
	checkRefused(t, s, 1, api.ErrFull)
	checkSpace(t, "no words", s, 0)
}

// P15.2

func TestLayOfEachSizeAlone(t *testing.T) {
	for n, blocks := range map[int]int{1: 1, 2: 1, 63: 1, 64: 1, 65: 2, 127: 2, 128: 2, 129: 3, 192: 3, 193: 4, 4032: 63, 4033: 64, 4095: 64, 4096: 64} {
		s, p, a := made(t, 65)
		checkLay(t, s, n, 0)
		checkSpace(t, "one thing", s, blocks, thing{0, n})
		checkHas(t, "one thing", s, a.Len(), thing{0, n})
		checkLeft(t, "one thing", p, 65-blocks)
		if first, many, e := p.Group(0); first != 0 || many != blocks || e != api.OK {
			t.Errorf("Lay(%d) took the group %d of %d blocks, error %d; want 0 of %d", n, first, many, int(e), blocks)
		}
		// As many blocks are just enough, and one less is not.
		s, _, _ = made(t, blocks)
		checkLay(t, s, n, 0)
		if blocks > 1 {
			s, p, _ = made(t, blocks-1)
			checkRefused(t, s, n, api.ErrFull)
			checkSpace(t, "a block is wanting", s, 0)
			checkLeft(t, "a block is wanting", p, blocks-1)
		}
	}
}

func TestEverySizeBySizeOfItsGroup(t *testing.T) {
	s, p, _ := made(t, 64)
	for n := 1; n <= 4096; n++ {
		checkLay(t, s, n, 0)
		if want := int(math.Ceil(float64(n) / 64)); s.Blocks() != want || p.Left() != 64-want || s.Used() != n {
			t.Errorf("Lay(%d): Blocks %d, %d left, Used %d; want %d blocks", n, s.Blocks(), p.Left(), s.Used(), want)
		}
		checkFree(t, s)
		checkLeft(t, "behind Free", p, 64)
	}
}

func TestLayOfSizesThatMayNotBe(t *testing.T) {
	s, p, _ := made(t, 70)
	full, _, _ := made(t, 1)
	lay(t, full, 64)
	sizes := slices.Concat(farBelow, []int{0, 4097, 4098, 8192}, farAbove)
	for _, n := range sizes {
		checkRefused(t, s, n, api.ErrSize)
		// The size is named first, also where there is no room.
		checkRefused(t, full, n, api.ErrSize)
	}
	checkSpace(t, "behind what was refused", s, 0)
	checkSpace(t, "behind what was refused", full, 1, thing{0, 64})
	checkLeft(t, "behind what was refused", p, 70)
	lay(t, s, 5)
	for _, n := range sizes {
		checkRefused(t, s, n, api.ErrSize)
	}
	checkLay(t, s, 59, 5)
	checkSpace(t, "it goes on as it was", s, 1, thing{0, 5}, thing{5, 59})
}

// What just fills the block that is laid in, and what is one word too great for it.
func TestLayWhatJustFits(t *testing.T) {
	for filled := 1; filled <= 64; filled++ {
		if filled < 64 {
			s, p, _ := made(t, 3)
			lay(t, s, filled)
			checkLay(t, s, 64-filled, filled)
			checkLeft(t, "it just fits", p, 2)
			checkLay(t, s, 1, 64)
			checkSpace(t, "it just fits", s, 2, thing{0, filled}, thing{filled, 64 - filled}, thing{64, 1})
		}
		s, p, _ := made(t, 3)
		lay(t, s, filled)
		checkLay(t, s, 65-filled, 64)
		checkLeft(t, "a word too great", p, 1)
		// The new block is laid in from now on, whatever the one ahead has left.
		if filled > 1 {
			checkLay(t, s, filled-1, 64+65-filled)
		}
		checkLay(t, s, 1, 128)
	}
}

func TestLayWordByWord(t *testing.T) {
	s, _, a := made(t, 3)
	var things []thing
	for at := range 192 {
		checkLay(t, s, 1, at)
		things = append(things, thing{at, 1})
		checkSpace(t, "word by word", s, at/64+1, things...)
	}
	checkHas(t, "all words", s, a.Len(), things...)
	checkRefused(t, s, 1, api.ErrFull)
	checkSpace(t, "all words", s, 3, things...)
}

func TestLayOfWholeBlocks(t *testing.T) {
	s, _, a := made(t, 3)
	for i := range 3 {
		checkLay(t, s, 64, i*64)
	}
	checkRefused(t, s, 1, api.ErrFull)
	checkHas(t, "whole blocks", s, a.Len(), thing{0, 64}, thing{64, 64}, thing{128, 64})
}

// Behind something of more than 64 words, what is laid in is as it was.
func TestGreatBetweenSmall(t *testing.T) {
	for _, great := range []int{65, 66, 100, 127, 128, 129, 191, 192, 193, 4095, 4096} {
		s, p, a := made(t, 70)
		blocks := (great + 63) / 64
		checkLay(t, s, 10, 0)
		checkLay(t, s, great, 64)
		checkLay(t, s, 20, 10)
		checkLay(t, s, 34, 30)
		checkLay(t, s, 1, 64+64*blocks)
		checkLay(t, s, 65, 128+64*blocks)
		checkLay(t, s, 63, 65+64*blocks)
		l := []thing{{0, 10}, {64, great}, {10, 20}, {30, 34}, {64 + 64*blocks, 1}, {128 + 64*blocks, 65}, {65 + 64*blocks, 63}}
		want := 4 + blocks
		checkSpace(t, "great between small", s, want, l...)
		checkHas(t, "great between small", s, a.Len(), l...)
		checkLeft(t, "great between small", p, 70-want)
		checkFree(t, s)
		checkLeft(t, "behind Free", p, 70)
	}
}

// A great one may stand below the block that is laid in, and be laid ahead of anything small.
func TestGreatAheadOfSmall(t *testing.T) {
	s, p, _ := made(t, 9)
	p.Alloc(2)
	p.Alloc(1)
	checkLay(t, s, 100, 192)
	checkLay(t, s, 5, 320)
	p.Free(0)
	checkLay(t, s, 100, 0)
	checkLay(t, s, 6, 325)
	checkSpace(t, "great first", s, 5, thing{192, 100}, thing{320, 5}, thing{0, 100}, thing{325, 6})
	checkFree(t, s)
	checkLeft(t, "behind Free", p, 8)
}

// The words behind a great one's end are nobody's, though its last block has them.
func TestNothingIsLaidBehindAGreatOne(t *testing.T) {
	s, p, _ := made(t, 4)
	checkLay(t, s, 65, 0)
	checkLay(t, s, 1, 128)
	checkLay(t, s, 63, 129)
	checkLay(t, s, 2, 192)
	checkLay(t, s, 62, 194)
	checkRefused(t, s, 1, api.ErrFull)
	checkLeft(t, "all is taken", p, 0)
}

func TestPoolWithNoBlockLeft(t *testing.T) {
	s, p, _ := made(t, 3)
	lay(t, s, 40)
	p.Alloc(2)
	for _, n := range []int{25, 63, 64, 65, 128, 129, 4096} {
		checkRefused(t, s, n, api.ErrFull)
		checkSpace(t, "no block left", s, 1, thing{0, 40})
	}
	// What there is room for finds it yet.
	checkLay(t, s, 24, 40)
	checkRefused(t, s, 1, api.ErrFull)
	checkSpace(t, "no word left", s, 1, thing{0, 40}, thing{40, 24})
	p.Free(1)
	checkLay(t, s, 1, 64)
	checkLay(t, s, 63, 65)
	checkLay(t, s, 64, 128)
	checkRefused(t, s, 1, api.ErrFull)
}

func TestPoolWhoseBlocksDoNotStandTogether(t *testing.T) {
	s, p, a := made(t, 9)
	for range 9 {
		p.Alloc(1)
	}
	for _, b := range []int{1, 3, 5, 7} {
		p.Free(b)
	}
	for _, n := range []int{65, 128, 129, 256, 4096} {
		checkRefused(t, s, n, api.ErrFull)
		checkSpace(t, "apart", s, 0)
		checkLeft(t, "apart", p, 4)
	}
	checkLay(t, s, 64, 64)
	checkLay(t, s, 1, 192)
	checkRefused(t, s, 65, api.ErrFull)
	checkLay(t, s, 1, 193)
	p.Free(6)
	checkRefused(t, s, 193, api.ErrFull)
	checkLay(t, s, 192, 320)
	checkLay(t, s, 1, 194)
	l := []thing{{64, 64}, {192, 1}, {193, 1}, {320, 192}, {194, 1}}
	checkSpace(t, "together", s, 5, l...)
	checkHas(t, "together", s, a.Len(), l...)
}

// A pool's blocks may reach beyond the arena's words: by whole blocks, and by a part of one.
func TestArenaThatHasNotAllWords(t *testing.T) {
	for words := 1; words <= 6*64; words++ {
		p := poolOf(t, 8)
		s := spaceOf(t, p, arenaOf(t, words))
		whole := words / 64
		for n := whole*64 + 1; n <= 8*64; n += 31 {
			checkRefused(t, s, n, api.ErrFull)
			checkSpace(t, "it reaches beyond", s, 0)
			checkLeft(t, "it reaches beyond", p, 8)
		}
		for i := range whole {
			checkLay(t, s, 64, i*64)
		}
		for _, n := range []int{1, 2, 63, 64, 65} {
			checkRefused(t, s, n, api.ErrFull)
			checkLeft(t, "all whole blocks are taken", p, 8-whole)
		}
		if s.Used() != whole*64 || s.Blocks() != whole {
			t.Errorf("%d words: Used %d, Blocks %d; want %d blocks", words, s.Used(), s.Blocks(), whole)
		}
		checkFree(t, s)
		checkLeft(t, "behind Free", p, 8)
	}
}

// A group's words are those of all its blocks, also of what is laid nowhere in them.
func TestArenaThatHasTheThingsWordsButNotTheGroups(t *testing.T) {
	for _, c := range []struct{ words, n int }{{63, 1}, {63, 63}, {127, 65}, {127, 127}, {191, 129}, {65, 65}, {4095, 4095}, {4095, 4033}, {4033, 4033}} {
		p := poolOf(t, 64)
		s := spaceOf(t, p, arenaOf(t, c.words))
		checkRefused(t, s, c.n, api.ErrFull)
		checkLeft(t, "the group is back", p, 64)
		if p.Longest() != 64 {
			t.Errorf("the longest run has %d blocks; want 64", p.Longest())
		}
	}
	s := spaceOf(t, poolOf(t, 2), arenaOf(t, 127))
	checkLay(t, s, 60, 0)
	checkRefused(t, s, 5, api.ErrFull)
	checkRefused(t, s, 65, api.ErrFull)
	checkLay(t, s, 4, 60)
	checkRefused(t, s, 1, api.ErrFull)
	checkSpace(t, "a part of a block", s, 1, thing{0, 60}, thing{60, 4})
}

// An arena with more words than the pool has blocks for: those beyond are nobody's.
func TestArenaWithMoreWords(t *testing.T) {
	a := arenaOf(t, 1000)
	s := spaceOf(t, poolOf(t, 2), a)
	lay(t, s, 128)
	checkRefused(t, s, 1, api.ErrFull)
	checkHas(t, "more words", s, 1000, thing{0, 128})
}

// All n words are 0, whoever wrote there, and no other one is changed.
func TestLaidWordsAreNothing(t *testing.T) {
	const junk = math.MaxUint64
	for _, sizes := range [][]int{{1}, {63}, {64}, {65}, {128}, {129}, {3, 60, 2}, {64, 1}, {10, 100, 20, 200, 34, 1}, {1, 1, 1, 64, 62, 2, 1}, {4096}, {20, 4095, 44}} {
		s, _, a := made(t, 70)
		for at := range a.Len() {
			a.Write(at, junk)
		}
		laid := make([]bool, a.Len())
		for _, n := range sizes {
			at := lay(t, s, n)[0]
			for i := range n {
				laid[at+i] = true
			}
			for i, is := range laid {
				w, _ := a.Read(i)
				if is && w != 0 || !is && w != junk {
					t.Fatalf("behind Lay(%d) at %d of %v the word %d is %d", n, at, sizes, i, w)
				}
			}
		}
	}
}

func TestWordsWrittenAheadInTheBlockThatIsLaidIn(t *testing.T) {
	s, _, a := made(t, 2)
	lay(t, s, 5)
	for at := range a.Len() {
		a.Write(at, uint64(at)+1)
	}
	lay(t, s, 7)
	for at := range a.Len() {
		want := uint64(at) + 1
		if at >= 5 && at < 12 {
			want = 0
		}
		if w, _ := a.Read(at); w != want {
			t.Errorf("the word %d is %d; want %d", at, w, want)
		}
	}
}

func TestLaidAnewBehindFree(t *testing.T) {
	s, _, a := made(t, 3)
	for _, n := range []int{64, 1, 63, 65, 192, 100} {
		lay(t, s, n)
		for i := range n {
			if w, _ := a.Read(i); w != 0 {
				t.Errorf("behind Lay(%d) the word %d is %d", n, i, w)
			}
		}
		for at := range a.Len() {
			a.Write(at, 0xdead)
		}
		checkFree(t, s)
	}
}

// What is refused changes no word.
func TestRefusedChangesNoWord(t *testing.T) {
	p, a := poolOf(t, 3), arenaOf(t, 150)
	for at := range a.Len() {
		a.Write(at, 9)
	}
	s := spaceOf(t, p, a)
	lay(t, s, 30)
	lay(t, s, 64)
	for _, n := range []int{0, -1, 4097, 1, 22, 64, 65, 100, 192, 4096} {
		if _, e := s.Lay(n); e == api.OK {
			t.Fatalf("Lay(%d) found room", n)
		}
	}
	for at := range a.Len() {
		want := uint64(9)
		if at < 30 || at >= 64 && at < 128 {
			want = 0
		}
		if w, _ := a.Read(at); w != want {
			t.Errorf("the word %d is %d; want %d", at, w, want)
		}
	}
}

// P15.3

func TestHasOfPlacesWithinAndBeside(t *testing.T) {
	s, p, a := made(t, 12)
	p.Alloc(2)
	l := []thing{}
	for _, n := range []int{3, 60, 2, 70, 1, 61, 64, 5, 200} {
		l = append(l, thing{lay(t, s, n)[0], n})
		checkHas(t, "within and beside", s, a.Len(), l...)
	}
	checkFree(t, s)
	checkHas(t, "behind Free", s, a.Len())
}

// Has asks of this space alone, and at once.
func TestHasOfWhatIsNot(t *testing.T) {
	s, _, _ := made(t, 4)
	if s.Has(0) {
		t.Error("Has(0) ahead of the first Lay")
	}
	lay(t, s, 4)
	for at, want := range map[int]bool{-64: false, -1: false, 0: true, 1: false, 3: false, 4: false, 63: false, 64: false} {
		if s.Has(at) != want {
			t.Errorf("Has(%d) is %t", at, !want)
		}
	}
	lay(t, s, 1)
	if !s.Has(4) || s.Has(5) {
		t.Errorf("Has(4) is %t, Has(5) %t; want true, false", s.Has(4), s.Has(5))
	}
}

func TestUsedAndBlocks(t *testing.T) {
	s, p, _ := made(t, 200)
	used, blocks := 0, 0
	for _, c := range []struct{ n, more int }{{1, 1}, {63, 0}, {1, 1}, {65, 2}, {62, 0}, {1, 0}, {1, 1}, {64, 1}, {128, 2}, {129, 3}, {1, 1}, {4096, 64}, {63, 0}, {33, 1}, {32, 1}} {
		lay(t, s, c.n)
		used += c.n
		blocks += c.more
		if s.Used() != used || s.Blocks() != blocks {
			t.Errorf("behind Lay(%d): Used %d, Blocks %d; want %d, %d", c.n, s.Used(), s.Blocks(), used, blocks)
		}
		checkLeft(t, "what it has not the pool has", p, 200-blocks)
	}
}

// P15.4

func TestFreeOfNothingAndTwice(t *testing.T) {
	s, p, a := made(t, 5)
	for range 3 {
		checkFree(t, s)
		checkSpace(t, "nothing", s, 0)
		checkLeft(t, "nothing", p, 5)
	}
	lay(t, s, 3, 70, 64)
	for range 3 {
		checkFree(t, s)
		checkSpace(t, "behind Free", s, 0)
		checkHas(t, "behind Free", s, a.Len())
		checkLeft(t, "behind Free", p, 5)
	}
	// A second Free gives nobody's block back but its own.
	p.Alloc(5)
	checkFree(t, s)
	checkLeft(t, "all are another's", p, 0)
}

func TestLayBehindFree(t *testing.T) {
	s, p, a := made(t, 6)
	for range 4 {
		checkLay(t, s, 10, 0)
		checkLay(t, s, 100, 64)
		checkLay(t, s, 54, 10)
		checkLay(t, s, 1, 192)
		l := []thing{{0, 10}, {64, 100}, {10, 54}, {192, 1}}
		checkSpace(t, "as at first", s, 4, l...)
		checkHas(t, "as at first", s, a.Len(), l...)
		checkFree(t, s)
		checkLeft(t, "behind Free", p, 6)
	}
	// The block that was laid in is none any more, also where it has words left and is another's.
	lay(t, s, 10)
	checkFree(t, s)
	p.Alloc(1)
	checkLay(t, s, 1, 64)
	p.Alloc(4)
	checkFree(t, s)
	p.Alloc(1)
	checkRefused(t, s, 1, api.ErrFull)
	checkSpace(t, "all is another's", s, 0)
}

func TestFreeJoinsWhatWasTaken(t *testing.T) {
	s, p, _ := made(t, 20)
	lay(t, s, 64, 65, 1, 64, 300, 2, 62)
	checkFree(t, s)
	if p.Longest() != 20 {
		t.Errorf("the longest run has %d blocks; want all 20", p.Longest())
	}
	for first, many := range p.Groups() {
		t.Errorf("a group of %d blocks from %d on is left", many, first)
	}
}

func TestFreeLeavesOthersGroups(t *testing.T) {
	s, p, _ := made(t, 12)
	first, _ := p.Alloc(2)
	lay(t, s, 3, 70)
	second, _ := p.Alloc(3)
	lay(t, s, 64)
	checkFree(t, s)
	var groups []thing
	for at, n := range p.Groups() {
		groups = append(groups, thing{at, n})
	}
	if want := []thing{{first, 2}, {second, 3}}; !slices.Equal(groups, want) {
		t.Errorf("the groups behind Free are %v; want %v", groups, want)
	}
}

// P15.5

func TestNilSpace(t *testing.T) {
	var s *bump.Space
	for _, n := range slices.Concat(farBelow, []int{0, 1, 64, 65, 4096, 4097}, farAbove) {
		checkRefused(t, s, n, api.ErrNil)
		if s.Has(n) {
			t.Errorf("Has(%d) of a nil space", n)
		}
	}
	checkSpace(t, "a nil space", s, 0)
	each := s.Each()
	for range 2 {
		checkTold(t, "Each of a nil space", list(each), nil)
	}
	if e := s.Free(); e != api.ErrNil {
		t.Errorf("Free of a nil space: error %d", int(e))
	}
}

// P15.6

func TestTwoSpacesOfOnePool(t *testing.T) {
	p, a := poolOf(t, 8), arenaOf(t, 512)
	s, o := spaceOf(t, p, a), spaceOf(t, p, a)
	checkLay(t, s, 10, 0)
	checkLay(t, o, 10, 64)
	checkLay(t, s, 10, 10)
	checkLay(t, o, 100, 128)
	checkLay(t, s, 45, 256)
	checkLay(t, o, 10, 74)
	checkSpace(t, "the one", s, 2, thing{0, 10}, thing{10, 10}, thing{256, 45})
	checkSpace(t, "the other", o, 3, thing{64, 10}, thing{128, 100}, thing{74, 10})
	checkHas(t, "the one", s, 512, thing{0, 10}, thing{10, 10}, thing{256, 45})
	checkHas(t, "the other", o, 512, thing{64, 10}, thing{128, 100}, thing{74, 10})
	checkFree(t, s)
	checkLeft(t, "one is freed", p, 5)
	checkSpace(t, "the freed one", s, 0)
	checkSpace(t, "the other, as it was", o, 3, thing{64, 10}, thing{128, 100}, thing{74, 10})
	// What the one gave back the other may have, and goes on in its own block first.
	checkLay(t, o, 44, 84)
	checkLay(t, o, 1, 0)
	checkLay(t, s, 64, 256)
	checkFree(t, o)
	checkLeft(t, "the other is freed", p, 7)
	checkSpace(t, "the one, as it is", s, 1, thing{256, 64})
}

func TestTwoSpacesHaveWordsOfTheirOwn(t *testing.T) {
	p, a := poolOf(t, 40), arenaOf(t, 40*64)
	spaces := []*bump.Space{spaceOf(t, p, a), spaceOf(t, p, a), spaceOf(t, p, a)}
	owner := make([]int, a.Len())
	for i, n := range []int{1, 64, 65, 3, 63, 200, 30, 34, 1, 1, 1, 129, 64, 7, 57, 500, 2, 2} {
		at := lay(t, spaces[i%3], n)[0]
		for k := range n {
			if owner[at+k] != 0 {
				t.Fatalf("the word %d is laid twice: the things %d and %d", at+k, owner[at+k], i+1)
			}
			owner[at+k] = i + 1
			a.Write(at+k, uint64(i+1))
		}
		for w, who := range owner {
			if got, _ := a.Read(w); got != uint64(who) {
				t.Fatalf("behind Lay(%d) the word %d is %d; want %d", n, w, got, who)
			}
		}
	}
}

// Spaces of other pools in one arena lie over each other, by their owner's will: each goes on by its own pool.
func TestSpacesOfTwoPools(t *testing.T) {
	a := arenaOf(t, 128)
	s, o := spaceOf(t, poolOf(t, 1), a), spaceOf(t, poolOf(t, 2), a)
	checkLay(t, s, 64, 0)
	checkRefused(t, s, 1, api.ErrFull)
	checkLay(t, o, 1, 0)
	checkLay(t, o, 64, 64)
	checkFree(t, s)
	checkSpace(t, "the other", o, 2, thing{0, 1}, thing{64, 64})
}

// P15.7

// The worst that can be laid: by turns one word, and as many as find no room behind it.
func TestLittleIsLost(t *testing.T) {
	for least := 1; least <= 32; least++ {
		s, _, _ := made(t, 100)
		for s.Blocks() < 99 {
			lay(t, s, least, 65-least)
		}
		checkLost(t, s)
	}
	for n := 1; n <= 64; n++ {
		s, _, _ := made(t, 50)
		for {
			if _, e := s.Lay(n); e != api.OK {
				break
			}
			checkLost(t, s)
		}
		if want := 50 * (64 / n); len(list(s.Each())) != want {
			t.Errorf("%d things of %d words in 50 blocks; want %d", len(list(s.Each())), n, want)
		}
	}
}

func checkLost(t *testing.T, s *bump.Space) {
	t.Helper()
	if most := 2*((s.Used()+63)/64) + 1; s.Blocks() > most {
		t.Fatalf("%d words have %d blocks; at most %d may be", s.Used(), s.Blocks(), most)
	}
}
