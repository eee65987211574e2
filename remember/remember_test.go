package remember_test

import (
	"math"
	"slices"
	"testing"

	"midden/api"
	"midden/remember"
)

func TestExampleOfTheChapter(t *testing.T) {
	l := made(t, 2)
	put(t, l, 1, 9, 4, 9)
	checkLists(t, "the example", l, nil, []int{4, 9})
	checkTake(t, l, 1, 4, 9)
	checkLists(t, "behind Take", l, nil, nil)
}

// P16.1

func TestNewOfEachNumber(t *testing.T) {
	for gens := 1; gens <= 4; gens++ {
		l := made(t, gens)
		checkLists(t, "new lists", l, make([][]int, gens)...)
		for gen := range gens {
			checkTake(t, l, gen)
			for _, at := range []int{1, 2, 64, mostWords} {
				checkHas(t, l, gen, at, false)
			}
		}
		for gen := range gens {
			put(t, l, gen, gen+1)
		}
		checkPut(t, l, gens, 1, api.ErrArg)
		checkPut(t, l, -1, 1, api.ErrArg)
	}
}

func TestNewOfNumbersThatMayNotBe(t *testing.T) {
	for _, gens := range slices.Concat(farBelow, []int{0, 5, 6, 8, 255, 256, 257, 260, 1<<16 + 1}, farAbove) {
		if l, e := remember.New(gens); l != nil || e != api.ErrArg {
			t.Errorf("New(%d): lists %t, error %d; want none, error %d", gens, l != nil, int(e), int(api.ErrArg))
		}
	}
}

func TestListsOfTheirOwn(t *testing.T) {
	one, other := made(t, 3), made(t, 3)
	put(t, one, 1, 5, 6)
	put(t, other, 1, 6, 7)
	put(t, other, 2, 5)
	drop(t, one, 1, 6)
	checkLists(t, "one", one, nil, []int{5}, nil)
	checkLists(t, "the other", other, nil, []int{6, 7}, []int{5})
	checkTake(t, other, 1, 6, 7)
	checkLists(t, "one behind the other's Take", one, nil, []int{5}, nil)
}

// P16.2

func TestPutDropHasAtTheEdges(t *testing.T) {
	for gens := 1; gens <= 4; gens++ {
		for gen := range gens {
			for _, at := range []int{1, 2, 3, 63, 64, 65, 1<<16 - 1, 1 << 16, 1<<18 + 1, mostWords - 1, mostWords} {
				l := made(t, gens)
				want := make([][]int, gens)
				checkHas(t, l, gen, at, false)
				put(t, l, gen, at)
				want[gen] = []int{at}
				checkLists(t, "one address", l, want...)
				for other := range gens {
					checkHas(t, l, other, at, other == gen)
				}
				drop(t, l, gen, at)
				want[gen] = nil
				checkHas(t, l, gen, at, false)
				checkLists(t, "none", l, want...)
			}
		}
	}
}

func TestGenThatIsNoList(t *testing.T) {
	for gens := 1; gens <= 4; gens++ {
		l := made(t, gens)
		want := make([][]int, gens)
		for gen := range gens {
			put(t, l, gen, 1, 9+gen, mostWords)
			want[gen] = []int{1, 9 + gen, mostWords}
		}
		for _, gen := range noGens(gens) {
			if gen >= 0 && gen < gens {
				continue
			}
			for _, at := range []int{1, 2, 9, mostWords} {
				checkPut(t, l, gen, at, api.ErrArg)
				checkDrop(t, l, gen, at, api.ErrArg)
				checkHas(t, l, gen, at, false)
			}
			checkRow(t, "All of no list", l.All(gen), nil)
			checkRow(t, "Take of no list", l.Take(gen), nil)
		}
		checkLists(t, "behind what was refused", l, want...)
	}
}

func TestAtThatIsNoAddress(t *testing.T) {
	for gens := 1; gens <= 4; gens++ {
		l := made(t, gens)
		want := make([][]int, gens)
		for gen := range gens {
			put(t, l, gen, 1, 9, mostWords)
			want[gen] = []int{1, 9, mostWords}
			for _, at := range noPlaces() {
				checkPut(t, l, gen, at, api.ErrRange)
				checkHas(t, l, gen, at, false)
				checkDrop(t, l, gen, at, api.ErrRange)
				checkHas(t, l, gen, at, false)
			}
		}
		checkLists(t, "behind what was refused", l, want...)
	}
}

// R2: gen is named first.
func TestGenAndAtBothWrong(t *testing.T) {
	l := made(t, 2)
	put(t, l, 0, 3)
	for _, gen := range noGens(2) {
		for _, at := range noPlaces() {
			checkPut(t, l, gen, at, api.ErrArg)
			checkDrop(t, l, gen, at, api.ErrArg)
			checkHas(t, l, gen, at, false)
		}
	}
	checkLists(t, "behind what was refused", l, []int{3}, nil)
}

func TestPutOfWhatStandsThere(t *testing.T) {
	l := made(t, 1)
	for range 5 {
		put(t, l, 0, 7)
		checkLists(t, "put again", l, []int{7})
	}
	drop(t, l, 0, 7)
	checkLists(t, "once is enough to drop it", l, nil)
}

func TestDropOfWhatDoesNotStandThere(t *testing.T) {
	l := made(t, 2)
	drop(t, l, 0, 1, 7, mostWords)
	checkLists(t, "nothing was there", l, nil, nil)
	put(t, l, 0, 7)
	drop(t, l, 0, 6, 8)
	drop(t, l, 1, 7)
	checkLists(t, "others were dropped", l, []int{7}, nil)
	drop(t, l, 0, 7, 7)
	checkLists(t, "dropped twice", l, nil, nil)
}

func TestPutBehindDrop(t *testing.T) {
	l := made(t, 2)
	put(t, l, 1, 3, 5)
	for range 3 {
		drop(t, l, 1, 5)
		checkLists(t, "behind Drop", l, nil, []int{3})
		put(t, l, 1, 5)
		checkLists(t, "put again", l, nil, []int{3, 5})
	}
}

func TestOneAddressInSeveralLists(t *testing.T) {
	l := made(t, 4)
	for gen := range 4 {
		put(t, l, gen, 8)
	}
	checkLists(t, "in all", l, []int{8}, []int{8}, []int{8}, []int{8})
	drop(t, l, 1, 8)
	checkLists(t, "one is dropped", l, []int{8}, nil, []int{8}, []int{8})
	checkTake(t, l, 3, 8)
	checkLists(t, "one is taken", l, []int{8}, nil, []int{8}, nil)
	put(t, l, 3, 8)
	drop(t, l, 0, 8)
	checkLists(t, "one is back", l, nil, nil, []int{8}, []int{8})
}

// P16.3

func TestAllAndTakeInEachOrder(t *testing.T) {
	rows := [][]int{
		{},
		{1},
		{mostWords},
		{1, 2, 3, 4, 5, 6, 7, 8, 9, 10},
		{10, 9, 8, 7, 6, 5, 4, 3, 2, 1},
		{5, 9, 1, 3, 10, 2, 8, 7, 4, 6},
		{5, 5, 9, 1, 9, 3, 5, 1, 9},
		{mostWords, 1, mostWords - 1, 2, 1 << 18, 64, 63, 65},
		{10, 9, 100, 99, 1000, 2, 20, 200, 11, 111},
	}
	for _, row := range rows {
		l := made(t, 2)
		put(t, l, 1, row...)
		want := slices.Compact(slices.Sorted(slices.Values(row)))
		checkLists(t, "put", l, nil, want)
		checkLists(t, "All takes nothing", l, nil, want)
		checkTake(t, l, 1, want...)
		checkLists(t, "Take takes all", l, nil, nil)
		for _, at := range want {
			checkHas(t, l, 1, at, false)
		}
	}
}

func TestTakeTwiceAndPutBehindTake(t *testing.T) {
	l := made(t, 3)
	put(t, l, 0, 1)
	put(t, l, 2, 4, 2)
	checkTake(t, l, 2, 2, 4)
	checkTake(t, l, 2)
	checkLists(t, "taken twice", l, []int{1}, nil, nil)
	put(t, l, 2, 4, 3)
	checkLists(t, "put behind Take", l, []int{1}, nil, []int{3, 4})
	checkTake(t, l, 2, 3, 4)
	drop(t, l, 2, 4)
	checkLists(t, "dropped behind Take", l, []int{1}, nil, nil)
}

func TestTakeOfOneListAlone(t *testing.T) {
	for gens := 1; gens <= 4; gens++ {
		for taken := range gens {
			l := made(t, gens)
			want := make([][]int, gens)
			for gen := range gens {
				put(t, l, gen, 30, 10+gen)
				want[gen] = []int{10 + gen, 30}
			}
			checkTake(t, l, taken, want[taken]...)
			want[taken] = nil
			checkLists(t, "one was taken", l, want...)
		}
	}
}

// R3: what was answered is its caller's, whatever is done to it or to the lists.
func TestWhatIsAnsweredIsNewMemory(t *testing.T) {
	l := made(t, 2)
	put(t, l, 1, 30, 10, 20)
	first, again := l.All(1), l.All(1)
	first[0], first[2] = 77, -5
	first = append(first, 99)
	checkRow(t, "another answer", again, []int{10, 20, 30})
	checkLists(t, "an answer was changed", l, nil, []int{10, 20, 30})
	put(t, l, 1, 5, 40)
	drop(t, l, 1, 20)
	taken := l.Take(1)
	put(t, l, 1, 1, 2, 3)
	checkRow(t, "kept beyond later calls", again, []int{10, 20, 30})
	checkRow(t, "changed by its caller alone", first, []int{77, 20, -5, 99})
	checkRow(t, "taken, and kept", taken, []int{5, 10, 30, 40})
	clear(taken[:cap(taken)])
	clear(again[:cap(again)])
	checkLists(t, "answers were cleared", l, nil, []int{1, 2, 3})
}

func TestAnswersOfTwoListsShareNothing(t *testing.T) {
	l := made(t, 2)
	put(t, l, 0, 1, 2, 3)
	put(t, l, 1, 1, 2, 3)
	one, other := l.All(0), l.Take(1)
	clear(one[:cap(one)])
	checkRow(t, "the other answer", other, []int{1, 2, 3})
	checkLists(t, "the lists", l, []int{1, 2, 3}, nil)
}

// What an empty list answered is its caller's to append to.
func TestEmptyAnswers(t *testing.T) {
	l := made(t, 1)
	for _, row := range [][]int{l.All(0), l.Take(0), l.All(1), l.Take(-1)} {
		checkRow(t, "empty", append(row, 4), []int{4})
	}
	checkLists(t, "behind it", l, nil)
}

func TestLen(t *testing.T) {
	l := made(t, 4)
	checkLen := func(want int) {
		t.Helper()
		if l.Len() != want {
			t.Errorf("Len %d; want %d", l.Len(), want)
		}
	}
	checkLen(0)
	put(t, l, 0, 1, 2, 3)
	put(t, l, 3, 3, 4)
	checkLen(5)
	put(t, l, 0, 3)
	checkLen(5)
	put(t, l, 2, 3)
	checkLen(6)
	checkPut(t, l, 4, 9, api.ErrArg)
	checkPut(t, l, 0, 0, api.ErrRange)
	checkPut(t, l, 1, mostWords+1, api.ErrRange)
	checkDrop(t, l, 4, 3, api.ErrArg)
	checkLen(6)
	drop(t, l, 0, 2)
	checkLen(5)
	drop(t, l, 0, 2)
	checkLen(5)
	l.All(0)
	checkLen(5)
	l.Take(0)
	checkLen(3)
	l.Take(0)
	l.Take(4)
	checkLen(3)
	put(t, l, 0, 2)
	checkLen(4)
}

// P16.4

func TestNilLists(t *testing.T) {
	var l *remember.Lists
	for _, gen := range slices.Concat([]int{0, 1, 2, 3}, noGens(4)) {
		for _, at := range slices.Concat([]int{1, 9, mostWords}, noPlaces()) {
			checkPut(t, l, gen, at, api.ErrNil)
			checkDrop(t, l, gen, at, api.ErrNil)
			checkHas(t, l, gen, at, false)
		}
		checkRow(t, "All of nil lists", l.All(gen), nil)
		checkRow(t, "Take of nil lists", l.Take(gen), nil)
	}
	if l.Len() != 0 {
		t.Errorf("Len of nil lists: %d", l.Len())
	}
}

// P16.5

// orders tells every order of a row.
func orders(row []int) [][]int {
	if len(row) == 0 {
		return [][]int{nil}
	}
	var l [][]int
	for i, first := range row {
		rest := slices.Concat(row[:i], row[i+1:])
		for _, o := range orders(rest) {
			l = append(l, append([]int{first}, o...))
		}
	}
	return l
}

func TestEveryOrderTellsTheSame(t *testing.T) {
	for _, row := range orders([]int{1, 7, 7, 64, 300, mostWords}) {
		l := made(t, 2)
		put(t, l, 0, row...)
		put(t, l, 1, row[:3]...)
		put(t, l, 1, row...)
		want := []int{1, 7, 64, 300, mostWords}
		checkLists(t, "in another order", l, want, want)
		drop(t, l, 0, row[0], row[5])
		left := slices.DeleteFunc(slices.Clone(want), func(at int) bool { return at == row[0] || at == row[5] })
		checkLists(t, "dropped", l, left, want)
		checkTake(t, l, 0, left...)
		checkTake(t, l, 1, want...)
	}
}

func TestHowOftenPlaysNoPart(t *testing.T) {
	once, often := made(t, 1), made(t, 1)
	for at := 1; at <= 60; at++ {
		put(t, once, 0, at*at)
		for range at {
			put(t, often, 0, at*at)
		}
		checkRow(t, "put often", often.All(0), once.All(0))
	}
	for at := 1; at <= 60; at += 2 {
		drop(t, once, 0, at*at)
		drop(t, often, 0, at*at, at*at)
		checkRow(t, "dropped", often.All(0), once.All(0))
	}
	if once.Len() != 30 || often.Len() != 30 {
		t.Errorf("Len %d and %d; want 30", once.Len(), often.Len())
	}
}

// R1: lists that no call made have no list, and none of the calls panics.
func TestListsThatNoCallMade(t *testing.T) {
	var l remember.Lists
	for _, gen := range []int{0, 1, -1, math.MaxInt} {
		l.Put(gen, 1)
		l.Drop(gen, 1)
		l.Has(gen, 1)
		l.All(gen)
		l.Take(gen)
	}
	l.Len()
}
