package stable_test

import (
	"math"
	"slices"
	"testing"

	"midden/api"
	"midden/stable"
)

func TestExampleOfTheChapter(t *testing.T) {
	x := made(t, 2)
	checkMake(t, x, 5, 256, api.OK)
	checkMake(t, x, 6, 257, api.OK)
	checkMake(t, x, 7, 0, api.ErrFull)
	checkFree(t, x, 256, api.OK)
	checkMake(t, x, 8, 512, api.OK)
	checkGet(t, x, 256, 0, api.ErrStale)
	checkGet(t, x, 512, 8, api.OK)
	checkTable(t, "the example", x, hold{0, 2, 8}, hold{1, 1, 6})
}

// P17.1

func TestNewOfEachNumber(t *testing.T) {
	for most := 1; most <= 256; most++ {
		x := made(t, most)
		checkTable(t, "a new table", x)
		for slot := range 257 {
			checkStale(t, x, slot, 256+slot, 512+slot)
		}
		var want []hold
		for slot := range most {
			checkMake(t, x, 1000-slot, 256+slot, api.OK)
			want = append(want, hold{slot, 1, 1000 - slot})
		}
		checkMake(t, x, 9, 0, api.ErrFull)
		checkTable(t, "a full table", x, want...)
	}
}

func TestNewOfNumbersThatMayNotBe(t *testing.T) {
	for _, most := range slices.Concat(farBelow, []int{0, 257, 258, 260, 511, 512, 1 << 16, 1<<16 + 1}, farAbove) {
		if x, e := stable.New(most); x != nil || e != api.ErrArg {
			t.Errorf("New(%d): a table %t, error %d; want none, error %d", most, x != nil, int(e), int(api.ErrArg))
		}
	}
}

func TestTablesOfTheirOwn(t *testing.T) {
	one, other := holding(t, 3, 5, 6), holding(t, 3, 7)
	free(t, one, 256)
	checkTable(t, "the other behind Free of one's", other, first(7)...)
	other.Map(func(at int) int { return at * 10 })
	checkMake(t, other, 8, 257, api.OK)
	checkTable(t, "one", one, hold{1, 1, 6})
	checkTable(t, "the other", other, first(70, 8)...)
	checkMake(t, one, 9, 512, api.OK)
	checkStale(t, other, 512)
}

// P17.2

func TestMakeAtTheEdges(t *testing.T) {
	for _, at := range []int{1, 2, 3, 63, 64, 255, 256, 257, 512, 1<<16 - 1, 1 << 16, 1<<18 + 1, mostWords - 1, mostWords} {
		x := made(t, 2)
		checkMake(t, x, at, 256, api.OK)
		checkTable(t, "one address", x, first(at)...)
		checkMake(t, x, at, 257, api.OK)
		checkTable(t, "the same address twice", x, first(at, at)...)
		free(t, x, 256)
		checkTable(t, "one of the two was freed", x, hold{1, 1, at})
	}
}

// A wrong address is told first, be there a free slot or none.
func TestMakeOfWhatIsNoAddress(t *testing.T) {
	for held := range 4 {
		places := []int{7, 1, mostWords}[:held]
		x := holding(t, 3, places...)
		for _, at := range noPlaces() {
			checkMake(t, x, at, 0, api.ErrRange)
		}
		checkTable(t, "behind what was refused", x, first(places...)...)
		for slot := held; slot < 3; slot++ {
			checkMake(t, x, 2, 256+slot, api.OK)
		}
	}
}

func TestMakeIntoAFullTable(t *testing.T) {
	for _, most := range []int{1, 2, 3, 255, 256} {
		x := made(t, most)
		var want []hold
		for slot := range most {
			checkMake(t, x, slot+1, 256+slot, api.OK)
			want = append(want, hold{slot, 1, slot + 1})
		}
		for _, at := range []int{1, 2, most, mostWords} {
			checkMake(t, x, at, 0, api.ErrFull)
		}
		checkTable(t, "behind what was refused", x, want...)
		free(t, x, 256+most-1)
		checkMake(t, x, 77, 512+most-1, api.OK)
		checkMake(t, x, 78, 0, api.ErrFull)
	}
}

func TestMakeTakesTheLowestFreeSlot(t *testing.T) {
	for slot := range 5 {
		x := holding(t, 5, 10, 11, 12, 13, 14)
		want := first(10, 11, 12, 13, 14)
		free(t, x, 256+slot)
		checkTable(t, "one was freed", x, slices.Delete(slices.Clone(want), slot, slot+1)...)
		checkMake(t, x, 99, 512+slot, api.OK)
		want[slot] = hold{slot, 2, 99}
		checkTable(t, "it is held again", x, want...)
		checkMake(t, x, 98, 0, api.ErrFull)
	}
}

// Whatever the order in which slots were freed.
func TestMakeTakesTheLowestOfSeveralFreeSlots(t *testing.T) {
	for _, freed := range [][]int{{0, 1}, {1, 0}, {3, 1}, {1, 3}, {4, 2, 0}, {0, 2, 4}, {2, 4, 0}, {3, 2, 1}, {4, 3, 2, 1, 0}, {2, 0, 4, 1, 3}} {
		x := holding(t, 5, 10, 11, 12, 13, 14)
		for _, slot := range freed {
			free(t, x, 256+slot)
		}
		for i, slot := range slices.Sorted(slices.Values(freed)) {
			checkMake(t, x, 100+i, 512+slot, api.OK)
		}
		checkMake(t, x, 98, 0, api.ErrFull)
	}
}

// A free slot below comes ahead of those that were never held.
func TestMakeTakesAFreedSlotAheadOfANewOne(t *testing.T) {
	x := holding(t, 4, 1, 2)
	free(t, x, 256)
	checkMake(t, x, 3, 512, api.OK)
	checkMake(t, x, 4, 258, api.OK)
	free(t, x, 257, 258)
	checkMake(t, x, 5, 513, api.OK)
	checkMake(t, x, 6, 514, api.OK)
	checkMake(t, x, 7, 259, api.OK)
	checkTable(t, "behind it", x, hold{0, 2, 3}, hold{1, 2, 5}, hold{2, 2, 6}, hold{3, 1, 7})
}

// P17.3

func TestGetChangesNothing(t *testing.T) {
	x := holding(t, 3, 5, mostWords)
	for range 5 {
		checkGet(t, x, 257, mostWords, api.OK)
		checkGet(t, x, 256, 5, api.OK)
		checkGet(t, x, 258, 0, api.ErrStale)
	}
	checkTable(t, "behind Get", x, first(5, mostWords)...)
}

func TestHandlesThatWereNeverTold(t *testing.T) {
	x := holding(t, 3, 5, 6)
	want := first(5, 6)
	checkStale(t, x, noPlaces()...)
	checkStale(t, x, 0, 1, 2, 3, 254, 255) // a slot's number alone
	checkStale(t, x, 258, 259, 300, 511)   // of a slot that is free, and of slots that the table does not have
	checkStale(t, x, 512, 513, 514, 515)   // the next turn ahead of its time
	checkStale(t, x, 768, 769, 1<<16, 1<<16+256, 256*256, 256*256+256)
	checkTable(t, "behind what was refused", x, want...)
	checkMake(t, x, 7, 258, api.OK)
	checkTable(t, "behind what was refused", x, first(5, 6, 7)...)
}

// Each bit of a handle counts.
func TestHandlesWithABitTurned(t *testing.T) {
	x := holding(t, 256, 9)
	for bit := range 64 {
		checkStale(t, x, 256^1<<bit)
	}
	checkTable(t, "behind what was refused", x, first(9)...)
}

func TestFreedHandles(t *testing.T) {
	x := holding(t, 3, 5, 6, 7)
	free(t, x, 257)
	checkStale(t, x, 257, 257, 513, 1)
	checkTable(t, "freed", x, hold{0, 1, 5}, hold{2, 1, 7})
	checkMake(t, x, 8, 513, api.OK)
	checkStale(t, x, 257, 769, 1)
	checkTable(t, "held again", x, hold{0, 1, 5}, hold{1, 2, 8}, hold{2, 1, 7})
	free(t, x, 513)
	checkStale(t, x, 257, 513, 769)
	checkMake(t, x, 6, 769, api.OK)
	checkStale(t, x, 257, 513, 1025)
	checkTable(t, "held once more, by what it held first", x, hold{0, 1, 5}, hold{1, 3, 6}, hold{2, 1, 7})
}

// What is refused is no Free: the turn does not go on.
func TestFreeTwiceIsOneTurn(t *testing.T) {
	x := holding(t, 2, 5)
	free(t, x, 256)
	checkStale(t, x, 256, 256, 512, 0, 257)
	checkMake(t, x, 5, 512, api.OK)
	checkMake(t, x, 5, 257, api.OK)
	free(t, x, 257, 512)
	checkTable(t, "all are free", x)
	checkMake(t, x, 5, 768, api.OK)
	checkMake(t, x, 5, 513, api.OK)
}

func TestTurnsOfOneSlot(t *testing.T) {
	for slot := range 3 {
		x := holding(t, 3, 10, 11, 12)
		for turn := 1; turn < 2000; turn++ {
			h := turn*256 + slot
			free(t, x, h)
			checkStale(t, x, h, h+256, slot, 256+slot)
			at := 1 + turn*31%mostWords
			checkMake(t, x, at, h+256, api.OK)
			checkGet(t, x, h+256, at, api.OK)
			checkStale(t, x, h, h+512)
		}
		for other := range 3 {
			if other != slot {
				checkGet(t, x, 256+other, 10+other, api.OK)
			}
		}
	}
}

// P17.4

func TestAllAndLen(t *testing.T) {
	x := made(t, 5)
	checkTable(t, "empty", x)
	for slot, at := range []int{50, 10, 40, 10, mostWords} {
		checkMake(t, x, at, 256+slot, api.OK)
	}
	checkTable(t, "full: slot by slot, as they were made", x, first(50, 10, 40, 10, mostWords)...)
	free(t, x, 257, 259)
	checkTable(t, "free slots between", x, hold{0, 1, 50}, hold{2, 1, 40}, hold{4, 1, mostWords})
	free(t, x, 256, 260)
	checkTable(t, "free slots at the ends", x, hold{2, 1, 40})
	checkMake(t, x, 3, 512, api.OK)
	checkTable(t, "made later, told first", x, hold{0, 2, 3}, hold{2, 1, 40})
	free(t, x, 512, 258)
	checkTable(t, "empty again", x)
}

// R3: what was answered is its caller's, whatever is done to it or to the table.
func TestWhatAllAnswersIsNewMemory(t *testing.T) {
	x := holding(t, 4, 30, 10, 20)
	told, again := x.All(), x.All()
	told[0], told[2] = 77, -5
	told = append(told, 99)
	checkRow(t, "another answer", again, []int{30, 10, 20})
	checkTable(t, "an answer was changed", x, first(30, 10, 20)...)
	x.Map(func(at int) int { return at + 1 })
	free(t, x, 257)
	checkMake(t, x, 5, 513, api.OK)
	checkMake(t, x, 6, 259, api.OK)
	checkRow(t, "kept beyond later calls", again, []int{30, 10, 20})
	checkRow(t, "changed by its caller alone", told, []int{77, 10, -5, 99})
	clear(told[:cap(told)])
	clear(again[:cap(again)])
	checkTable(t, "answers were cleared", x, hold{0, 1, 31}, hold{1, 2, 5}, hold{2, 1, 21}, hold{3, 1, 6})
}

// What an empty table answered is its caller's to append to.
func TestAllOfAnEmptyTable(t *testing.T) {
	x := made(t, 2)
	checkRow(t, "appended to", append(x.All(), 4), []int{4})
	checkTable(t, "behind it", x)
}

// P17.5

func TestNilTable(t *testing.T) {
	var x *stable.Table
	for _, n := range slices.Concat([]int{1, 2, 255, 256, 257, 512, mostWords}, noPlaces()) {
		checkMake(t, x, n, 0, api.ErrNil)
		checkGet(t, x, n, 0, api.ErrNil)
		checkFree(t, x, n, api.ErrNil)
	}
	x.Map(func(at int) int {
		t.Errorf("asked of %d", at)
		return at
	})
	x.Map(nil)
	checkRow(t, "All of a nil table", x.All(), nil)
	if x.Len() != 0 {
		t.Errorf("Len of a nil table: %d", x.Len())
	}
}

// R1: a table that no call made has no slot, and none of the calls panics.
func TestTableThatNoCallMade(t *testing.T) {
	var x stable.Table
	for _, n := range []int{0, 1, -1, 256, 257, math.MinInt, math.MaxInt} {
		x.Make(n)
		x.Get(n)
		x.Free(n)
	}
	x.Map(func(at int) int { return at })
	x.All()
	x.Len()
}
