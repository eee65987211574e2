package stable_test

import (
	"math"
	"slices"
	"testing"

	"midden/api"
	"midden/stable"
)

const mostWords = 1 << 19

// Numbers from all over the range of int that are no address, no number of slots and no handle of a table whose slots were freed a few times, among them such as would be one if they were cut to 32 bits or fewer.
var (
	farBelow = []int{math.MinInt, math.MinInt + 1, math.MinInt + 256, math.MinInt + 1<<19, -1 << 62, -1<<62 + 256, -1 << 32, -1<<32 + 1, -1<<32 + 256, -1<<32 + 257, -1 << 31, -1<<31 + 256, -1<<19 - 1, -1 << 19, -1 << 16, -1<<16 + 256, -513, -512, -511, -257, -256, -255, -254, -9, -3, -2, -1}
	farAbove = []int{mostWords + 1, mostWords + 2, 1<<19 + 9, 1 << 20, 1<<20 + 1, 1<<31 - 1, 1 << 31, 1<<31 + 1, 1<<31 + 256, 1<<32 - 1, 1 << 32, 1<<32 + 1, 1<<32 + 9, 1<<32 + 256, 1<<32 + 257, 1 << 40, 1<<40 + 256, 1 << 56, 1<<56 + 256, 1 << 61, 1 << 62, 1<<62 + 256, math.MaxInt - 1<<19, math.MaxInt - 256, math.MaxInt - 255, math.MaxInt - 1, math.MaxInt}
)

// noPlaces tells numbers that are no address.
func noPlaces() []int {
	return slices.Concat(farBelow, []int{0}, farAbove)
}

// hold is what a slot holds, and its turn.
type hold struct{ slot, turn, at int }

func (x hold) handle() int { return x.turn*256 + x.slot }

// rule is a table by the chapter's words alone: what its slots hold, in whatever order it came, and which slot was freed, one for each time.
type rule struct {
	most  int
	holds []hold
	freed []int
}

func isPlace(at int) bool { return 1 <= at && at <= 1<<19 }

func (r *rule) isFree(slot int) bool {
	return !slices.ContainsFunc(r.holds, func(x hold) bool { return x.slot == slot })
}

func (r *rule) turn(slot int) int {
	turn := 1
	for _, x := range r.freed {
		if x == slot {
			turn++
		}
	}
	return turn
}

func (r *rule) make(at int) (int, api.Errno) {
	if !isPlace(at) {
		return 0, api.ErrRange
	}
	for slot := range r.most {
		if r.isFree(slot) {
			x := hold{slot, r.turn(slot), at}
			r.holds = append(r.holds, x)
			return x.handle(), api.OK
		}
	}
	return 0, api.ErrFull
}

// place tells where a handle stands in the list of what is held, or -1.
func (r *rule) place(h int) int {
	return slices.IndexFunc(r.holds, func(x hold) bool { return x.handle() == h })
}

func (r *rule) get(h int) (int, api.Errno) {
	i := r.place(h)
	if i < 0 {
		return 0, api.ErrStale
	}
	return r.holds[i].at, api.OK
}

func (r *rule) free(h int) api.Errno {
	i := r.place(h)
	if i < 0 {
		return api.ErrStale
	}
	r.freed = append(r.freed, r.holds[i].slot)
	r.holds = slices.Delete(r.holds, i, i+1)
	return api.OK
}

// inSlots tells what is held, slot by slot.
func (r *rule) inSlots() []hold {
	l := slices.Clone(r.holds)
	slices.SortFunc(l, func(x, y hold) int { return x.slot - y.slot })
	return l
}

func (r *rule) turnAll(f func(int) int) {
	r.holds = r.inSlots()
	for i, x := range r.holds {
		if to := f(x.at); isPlace(to) {
			r.holds[i].at = to
		}
	}
}

func made(t *testing.T, most int) *stable.Table {
	t.Helper()
	x, e := stable.New(most)
	if e != api.OK || x == nil {
		t.Fatalf("New(%d): a table %t, error %d", most, x != nil, int(e))
	}
	return x
}

// holding makes a table of so many slots that holds these addresses, from its slot 0 on.
func holding(t *testing.T, most int, places ...int) *stable.Table {
	t.Helper()
	x := made(t, most)
	for slot, at := range places {
		checkMake(t, x, at, 256+slot, api.OK)
	}
	return x
}

// first tells what a table holds in which no slot was freed.
func first(places ...int) []hold {
	var l []hold
	for slot, at := range places {
		l = append(l, hold{slot, 1, at})
	}
	return l
}

func checkMake(t *testing.T, x *stable.Table, at, want int, wantErr api.Errno) {
	t.Helper()
	if h, e := x.Make(at); h != want || e != wantErr {
		t.Errorf("Make(%d): %d, error %d; want %d, error %d", at, h, int(e), want, int(wantErr))
	}
}

func checkGet(t *testing.T, x *stable.Table, h, want int, wantErr api.Errno) {
	t.Helper()
	if at, e := x.Get(h); at != want || e != wantErr {
		t.Errorf("Get(%d): %d, error %d; want %d, error %d", h, at, int(e), want, int(wantErr))
	}
}

func checkFree(t *testing.T, x *stable.Table, h int, want api.Errno) {
	t.Helper()
	if e := x.Free(h); e != want {
		t.Errorf("Free(%d): error %d; want %d", h, int(e), int(want))
	}
}

func free(t *testing.T, x *stable.Table, handles ...int) {
	t.Helper()
	for _, h := range handles {
		checkFree(t, x, h, api.OK)
	}
}

// checkStale holds handles to be nobody's.
func checkStale(t *testing.T, x *stable.Table, handles ...int) {
	t.Helper()
	for _, h := range handles {
		checkGet(t, x, h, 0, api.ErrStale)
		checkFree(t, x, h, api.ErrStale)
	}
}

func checkRow(t *testing.T, what string, got, want []int) {
	t.Helper()
	if !slices.Equal(got, want) {
		t.Errorf("%s: %v; want %v", what, got, want)
	}
}

// checkTable holds all that a table tells of itself to what its slots hold, slot by slot.
func checkTable(t *testing.T, what string, x *stable.Table, want ...hold) {
	t.Helper()
	var places, handles []int
	for _, w := range want {
		places = append(places, w.at)
		handles = append(handles, w.handle())
	}
	checkRow(t, what+": All", x.All(), places)
	if x.Len() != len(want) {
		t.Errorf("%s: Len %d; want %d", what, x.Len(), len(want))
	}
	for i, w := range want {
		h := handles[i]
		if at, e := x.Get(h); at != w.at || e != api.OK {
			t.Errorf("%s: Get(%d): %d, error %d; want %d", what, h, at, int(e), w.at)
		}
		for _, near := range []int{w.slot, h - 256, h + 256, h + 512, h - 1, h + 1, -h} {
			if at, e := x.Get(near); !slices.Contains(handles, near) && (at != 0 || e != api.ErrStale) {
				t.Errorf("%s: Get(%d): %d, error %d; want error %d", what, near, at, int(e), int(api.ErrStale))
			}
		}
	}
}
