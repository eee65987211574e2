package remember_test

import (
	"math/rand/v2"
	"testing"

	"midden/api"
	"midden/remember"
)

// Lists as great as the document allows (R1 to R6): four lists, each with all addresses 1 to 2^19.

func checkFull(t *testing.T, what string, got []int) {
	t.Helper()
	if len(got) != mostWords {
		t.Errorf("%s: %d addresses; want %d", what, len(got), mostWords)
		return
	}
	for i, at := range got {
		if at != i+1 {
			t.Errorf("%s: %d at the place %d; want %d", what, at, i, i+1)
			return
		}
	}
}

func fill(t *testing.T, l *remember.Lists, gen int, place func(i int) int) {
	t.Helper()
	for i := range mostWords {
		if e := l.Put(gen, place(i)); e != api.OK {
			t.Fatalf("Put(%d, %d): error %d", gen, place(i), int(e))
		}
	}
}

func TestFullLists(t *testing.T) {
	l := made(t, 4)
	mixed := rand.New(rand.NewPCG(1, 16)).Perm(mostWords)
	fill(t, l, 0, func(i int) int { return i + 1 })
	fill(t, l, 1, func(i int) int { return mostWords - i })
	fill(t, l, 2, func(i int) int { return mixed[i] + 1 })
	fill(t, l, 3, func(i int) int { return 1 + i*7919%mostWords })
	if l.Len() != 4*mostWords {
		t.Errorf("Len %d; want %d", l.Len(), 4*mostWords)
	}
	for gen := range 4 {
		checkFull(t, "All", l.All(gen))
		checkHas(t, l, gen, 0, false)
		checkHas(t, l, gen, mostWords+1, false)
	}
	checkPut(t, l, 0, mostWords+1, api.ErrRange)
	checkPut(t, l, 4, 1, api.ErrArg)
	fill(t, l, 3, func(i int) int { return i + 1 })
	checkFull(t, "Take", l.Take(3))
	if l.Len() != 3*mostWords || len(l.All(3)) != 0 || l.Has(3, 1) || l.Has(3, mostWords) {
		t.Errorf("behind Take: Len %d, %d in the list", l.Len(), len(l.All(3)))
	}
	checkFull(t, "another list behind Take", l.All(2))
}

// All addresses dropped one by one. What a call does does not hang on how many there are: else this would not end.
func TestFullListDropped(t *testing.T) {
	l := made(t, 1)
	fill(t, l, 0, func(i int) int { return i + 1 })
	for at := mostWords; at >= 1; at-- {
		if e := l.Drop(0, at); e != api.OK || l.Has(0, at) || l.Len() != at-1 || at > 1 && !l.Has(0, at-1) {
			t.Fatalf("Drop(0, %d): error %d, Has %t, Len %d", at, int(e), l.Has(0, at), l.Len())
		}
	}
	checkLists(t, "all were dropped", l, nil)
	put(t, l, 0, mostWords, 1)
	checkLists(t, "put behind it", l, []int{1, mostWords})
}

// A list that is filled and taken over and over is each time as at first.
func TestTakenOverAndOver(t *testing.T) {
	l := made(t, 2)
	put(t, l, 1, 3)
	fill(t, l, 0, func(i int) int { return i + 1 })
	checkFull(t, "Take", l.Take(0))
	for round := range 20000 {
		at := 1 + round*31%mostWords
		put(t, l, 0, at+1, at)
		checkTake(t, l, 0, at, at+1)
	}
	checkLists(t, "behind it", l, nil, []int{3})
}
