package stable_test

import (
	"math/rand/v2"
	"slices"
	"testing"

	"midden/api"
	"midden/stable"
)

// Tables as great as the document allows (R1 to R6), and slots that are freed very often.

// full makes a table of 256 slots that hold the addresses from a place on.
func full(t *testing.T, from int) (*stable.Table, []hold) {
	t.Helper()
	x := made(t, 256)
	var want []hold
	for slot := range 256 {
		checkMake(t, x, from+slot, 256+slot, api.OK)
		want = append(want, hold{slot, 1, from + slot})
	}
	return x, want
}

func TestFullTable(t *testing.T) {
	for _, from := range []int{1, 1000, mostWords - 255} {
		x, want := full(t, from)
		checkTable(t, "full", x, want...)
		checkMake(t, x, 1, 0, api.ErrFull)
		checkMake(t, x, 0, 0, api.ErrRange)
		checkMake(t, x, mostWords+1, 0, api.ErrRange)
		x.Map(func(at int) int { return mostWords + 1 - at })
		for i := range want {
			want[i].at = mostWords + 1 - want[i].at
		}
		checkTable(t, "turned", x, want...)
	}
}

// Each slot of a full table freed in the midst of the others, and held again.
func TestEachSlotOfAFullTable(t *testing.T) {
	x, want := full(t, 1)
	for slot := range 256 {
		free(t, x, 256+slot)
		checkStale(t, x, 256+slot, 512+slot)
		if x.Len() != 255 || len(x.All()) != 255 {
			t.Errorf("Len %d, %d addresses; want 255", x.Len(), len(x.All()))
		}
		checkMake(t, x, mostWords-slot, 512+slot, api.OK)
		checkMake(t, x, 1, 0, api.ErrFull)
		want[slot] = hold{slot, 2, mostWords - slot}
	}
	checkTable(t, "each was freed", x, want...)
}

// In a full table all slots are freed in a mixed order, many times: the lowest free one is held again each time, and no handle comes back.
func TestFullTableOverManyRounds(t *testing.T) {
	x, want := full(t, 1)
	g := rand.New(rand.NewPCG(2, 17))
	told := make(map[int]bool)
	for round := 1; round <= 60; round++ {
		for _, slot := range g.Perm(256) {
			told[want[slot].handle()] = true
			free(t, x, want[slot].handle())
		}
		checkTable(t, "all are freed", x)
		for slot := range 256 {
			want[slot] = hold{slot, round + 1, 1 + g.IntN(mostWords)}
			if told[want[slot].handle()] {
				t.Fatalf("the handle %d is told twice", want[slot].handle())
			}
			checkMake(t, x, want[slot].at, want[slot].handle(), api.OK)
		}
		checkTable(t, "held again", x, want...)
	}
	for h := range told {
		checkStale(t, x, h)
	}
	checkTable(t, "behind it", x, want...)
}

// A slot that is freed more than 2^20 times: its turns go on, and none of its handles comes back.
func TestOneSlotFreedVeryOften(t *testing.T) {
	const rounds = 1<<20 + 300
	for _, slot := range []int{0, 255} {
		x, _ := full(t, 1)
		for turn := 1; turn <= rounds; turn++ {
			h := turn*256 + slot
			e := x.Free(h)
			again := x.Free(h)
			next, made := x.Make(1 + turn%mostWords)
			if e != api.OK || again != api.ErrStale || next != h+256 || made != api.OK {
				t.Fatalf("the turn %d: Free error %d, again %d, then Make %d, error %d", turn, int(e), int(again), next, int(made))
			}
		}
		at := 1 + rounds%mostWords
		checkGet(t, x, (rounds+1)*256+slot, at, api.OK)
		checkStale(t, x, slot, rounds*256+slot, (rounds+2)*256+slot)
		for turn := 1; turn <= rounds; turn += 97 {
			checkGet(t, x, turn*256+slot, 0, api.ErrStale)
		}
		for bit := 8; bit < 64; bit++ {
			checkStale(t, x, ((rounds+1)*256+slot)^1<<bit)
		}
		other := 255 - slot
		checkGet(t, x, 256+other, 1+other, api.OK)
		if l := x.All(); len(l) != 256 || l[slot] != at || !slices.Contains(l, 100) {
			t.Errorf("behind it All tells %d addresses, %d of the slot", len(l), l[slot])
		}
	}
}

// Many tables at once are each their own.
func TestManyTables(t *testing.T) {
	var tables []*stable.Table
	for n := range 3000 {
		tables = append(tables, holding(t, 1+n%256, 1+n))
	}
	for n, x := range tables {
		checkTable(t, "one of many", x, first(1+n)...)
	}
}
