package bump_test

import (
	"testing"

	"midden/api"
	"midden/arena"
	"midden/bump"
	"midden/pool"
)

// Pools and arenas as great as the document allows (R1 to R6): 4096 blocks, 2^19 words.

const (
	mostBlocks = 4096
	blockWords = mostBlocks * 64 // the words that the greatest pool's blocks have
	mostWords  = 1 << 19
)

func greatest(t *testing.T) (*bump.Space, *pool.Pool, *arena.Arena) {
	t.Helper()
	p, a := poolOf(t, mostBlocks), arenaOf(t, mostWords)
	return spaceOf(t, p, a), p, a
}

// As many things as there can be. What a call does does not hang on how many were laid ahead: else these would not end.
func TestMostThings(t *testing.T) {
	s, p, _ := greatest(t)
	for at := range blockWords {
		if got, e := s.Lay(1); got != at || e != api.OK {
			t.Fatalf("Lay(1) = %d, error %d; want %d", got, int(e), at)
		}
		if !s.Has(at) || s.Has(at+1) || s.Used() != at+1 || s.Blocks() != at/64+1 {
			t.Fatalf("behind the thing %d: Has %t, %t, Used %d, Blocks %d", at, s.Has(at), s.Has(at+1), s.Used(), s.Blocks())
		}
	}
	for _, n := range []int{1, 64, 65, 4096} {
		checkRefused(t, s, n, api.ErrFull)
	}
	want := 0
	for at, n := range s.Each() {
		if at != want || n != 1 {
			t.Fatalf("told %d words at %d; want 1 at %d", n, at, want)
		}
		want++
	}
	if want != blockWords {
		t.Errorf("told %d things; want %d", want, blockWords)
	}
	checkLeft(t, "all is taken", p, 0)
	checkFree(t, s)
	checkLeft(t, "all is given back", p, mostBlocks)
	for _, at := range []int{0, 1, 63, 64, blockWords - 1, blockWords} {
		if s.Has(at) {
			t.Errorf("Has(%d) behind Free", at)
		}
	}
}

// Things as great as can be.
func TestGreatestThings(t *testing.T) {
	for _, n := range []int{4096, 4095, 4033} {
		s, p, a := greatest(t)
		for at := range a.Len() {
			a.Write(at, 3)
		}
		for i := range mostBlocks / 64 {
			checkLay(t, s, n, i*4096)
		}
		checkRefused(t, s, n, api.ErrFull)
		checkRefused(t, s, 1, api.ErrFull)
		if s.Used() != n*64 || s.Blocks() != mostBlocks || p.Left() != 0 {
			t.Errorf("Used %d, Blocks %d, %d left; want %d, %d, 0", s.Used(), s.Blocks(), p.Left(), n*64, mostBlocks)
		}
		for at := range a.Len() {
			want := uint64(3)
			if at < blockWords && at%4096 < n {
				want = 0
			}
			if w, _ := a.Read(at); w != want {
				t.Fatalf("things of %d words: the word %d is %d; want %d", n, at, w, want)
			}
		}
		checkFree(t, s)
		checkLeft(t, "all is given back", p, mostBlocks)
	}
}

// The last block of the greatest pool, in an arena that just has it, and in one that has not.
func TestLastBlock(t *testing.T) {
	for _, c := range []struct {
		words int
		want  api.Errno
	}{{blockWords, api.OK}, {blockWords + 1, api.OK}, {mostWords, api.OK}, {blockWords - 1, api.ErrFull}, {blockWords - 63, api.ErrFull}, {blockWords - 64, api.ErrFull}, {1, api.ErrFull}} {
		p, a := poolOf(t, mostBlocks), arenaOf(t, c.words)
		p.Alloc(mostBlocks - 1)
		s := spaceOf(t, p, a)
		if c.want != api.OK {
			checkRefused(t, s, 1, c.want)
			checkRefused(t, s, 64, c.want)
			checkLeft(t, "it has not all its words", p, 1)
			continue
		}
		checkLay(t, s, 1, blockWords-64)
		checkLay(t, s, 63, blockWords-63)
		checkRefused(t, s, 1, api.ErrFull)
		l := []thing{{blockWords - 64, 1}, {blockWords - 63, 63}}
		checkSpace(t, "the last block", s, 1, l...)
		checkHas(t, "the last block", s, mostWords, l...)
	}
}

// The last group of the greatest size, likewise.
func TestLastGroup(t *testing.T) {
	for words, want := range map[int]api.Errno{blockWords: api.OK, mostWords: api.OK, blockWords - 1: api.ErrFull, blockWords - 64: api.ErrFull, blockWords - 4096: api.ErrFull} {
		p, a := poolOf(t, mostBlocks), arenaOf(t, words)
		p.Alloc(mostBlocks - 64)
		s := spaceOf(t, p, a)
		for _, n := range []int{4096, 4033} {
			at, e := s.Lay(n)
			if e != want || e == api.OK && at != blockWords-4096 || e != api.OK && at != 0 {
				t.Errorf("an arena of %d words: Lay(%d) = %d, error %d; want error %d", words, n, at, int(e), int(want))
			}
			checkFree(t, s)
			checkLeft(t, "behind it", p, 64)
		}
	}
}

// Many spaces of one pool, each with one block at least, filled by turns.
func TestManySpaces(t *testing.T) {
	p, a := poolOf(t, mostBlocks), arenaOf(t, mostWords)
	var spaces []*bump.Space
	for range 1000 {
		spaces = append(spaces, spaceOf(t, p, a))
	}
	for round := range 4 {
		for i, s := range spaces {
			if at, e := s.Lay(30); e != api.OK || at != (round/2*1000+i)*64+round%2*30 {
				t.Fatalf("the space %d in the round %d: %d, error %d", i, round, at, int(e))
			}
		}
	}
	for i, s := range spaces {
		low, high := i*64, (1000+i)*64
		checkSpace(t, "one of many", s, 2, thing{low, 30}, thing{low + 30, 30}, thing{high, 30}, thing{high + 30, 30})
		checkFree(t, s)
		checkLeft(t, "one of many is freed", p, mostBlocks-2*(len(spaces)-i-1))
	}
}

// A space that is filled and given back over and over is each time as at first.
func TestFilledOverAndOver(t *testing.T) {
	s, p, _ := greatest(t)
	for range 200 {
		for s.Blocks() < 1000 {
			lay(t, s, 40, 200, 24)
		}
		if s.Blocks() != 1000 || s.Used() != 200*264 {
			t.Fatalf("Blocks %d, Used %d; want 1000, %d", s.Blocks(), s.Used(), 200*264)
		}
		checkFree(t, s)
		checkLeft(t, "given back", p, mostBlocks)
	}
}
