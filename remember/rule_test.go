package remember_test

import (
	"math"
	"slices"
	"testing"

	"midden/api"
	"midden/remember"
)

const mostWords = 1 << 19

// Numbers from all over the range of int that are no list and no address, among them such as would be one if they were cut to 32 bits or fewer.
var (
	farBelow = []int{math.MinInt, math.MinInt + 1, math.MinInt + 4, math.MinInt + 1<<19, -1 << 62, -1<<62 + 1, -1 << 32, -1<<32 + 1, -1<<32 + 9, -1 << 31, -1<<31 + 1, -1<<19 - 1, -1 << 19, -1 << 16, -1<<16 + 1, -256, -255, -9, -5, -4, -3, -2, -1}
	farAbove = []int{mostWords + 1, mostWords + 2, 1<<19 + 9, 1 << 20, 1<<20 + 1, 1<<31 - 1, 1 << 31, 1<<31 + 1, 1<<32 - 1, 1 << 32, 1<<32 + 1, 1<<32 + 9, 1 << 61, 1 << 62, 1<<62 + 1, math.MaxInt - 1<<19, math.MaxInt - 3, math.MaxInt - 1, math.MaxInt}
)

// noGens tells numbers that are no list of so many.
func noGens(gens int) []int {
	return slices.Concat(farBelow, []int{gens, gens + 1, gens + 2, 5, 8, 256, 257, 1 << 16, 1<<16 + 1}, farAbove)
}

// noPlaces tells numbers that are no address.
func noPlaces() []int {
	return slices.Concat(farBelow, []int{0}, farAbove)
}

// rule is lists by the chapter's words alone: of each the addresses, as a plain row in the order in which they came.
type rule [][]int

func (r rule) fault(gen, at int) api.Errno {
	if gen < 0 || gen >= len(r) {
		return api.ErrArg
	}
	if at < 1 || at > 1<<19 {
		return api.ErrRange
	}
	return api.OK
}

func (r rule) has(gen, at int) bool {
	return r.fault(gen, at) == api.OK && slices.Contains(r[gen], at)
}

func (r rule) put(gen, at int) api.Errno {
	e := r.fault(gen, at)
	if e == api.OK && !r.has(gen, at) {
		r[gen] = append(r[gen], at)
	}
	return e
}

func (r rule) drop(gen, at int) api.Errno {
	e := r.fault(gen, at)
	if e == api.OK {
		r[gen] = slices.DeleteFunc(r[gen], func(x int) bool { return x == at })
	}
	return e
}

func (r rule) all(gen int) []int {
	if gen < 0 || gen >= len(r) {
		return nil
	}
	l := slices.Clone(r[gen])
	slices.Sort(l)
	return l
}

func (r rule) take(gen int) []int {
	l := r.all(gen)
	if gen >= 0 && gen < len(r) {
		r[gen] = nil
	}
	return l
}

func (r rule) count() int {
	n := 0
	for _, l := range r {
		n += len(l)
	}
	return n
}

func made(t *testing.T, gens int) *remember.Lists {
	t.Helper()
	l, e := remember.New(gens)
	if e != api.OK || l == nil {
		t.Fatalf("New(%d): lists %t, error %d", gens, l != nil, int(e))
	}
	return l
}

func put(t *testing.T, l *remember.Lists, gen int, places ...int) {
	t.Helper()
	for _, at := range places {
		checkPut(t, l, gen, at, api.OK)
	}
}

func drop(t *testing.T, l *remember.Lists, gen int, places ...int) {
	t.Helper()
	for _, at := range places {
		checkDrop(t, l, gen, at, api.OK)
	}
}

func checkPut(t *testing.T, l *remember.Lists, gen, at int, want api.Errno) {
	t.Helper()
	if e := l.Put(gen, at); e != want {
		t.Errorf("Put(%d, %d): error %d; want %d", gen, at, int(e), int(want))
	}
}

func checkDrop(t *testing.T, l *remember.Lists, gen, at int, want api.Errno) {
	t.Helper()
	if e := l.Drop(gen, at); e != want {
		t.Errorf("Drop(%d, %d): error %d; want %d", gen, at, int(e), int(want))
	}
}

func checkHas(t *testing.T, l *remember.Lists, gen, at int, want bool) {
	t.Helper()
	if l.Has(gen, at) != want {
		t.Errorf("Has(%d, %d) is %t; want %t", gen, at, !want, want)
	}
}

func checkRow(t *testing.T, what string, got, want []int) {
	t.Helper()
	if !slices.Equal(got, want) {
		t.Errorf("%s: %v; want %v", what, got, want)
	}
}

func checkTake(t *testing.T, l *remember.Lists, gen int, want ...int) {
	t.Helper()
	checkRow(t, "Take", l.Take(gen), want)
}

// checkLists holds all that lists tell of themselves to the addresses of each, rising.
func checkLists(t *testing.T, what string, l *remember.Lists, want ...[]int) {
	t.Helper()
	count := 0
	for gen, row := range want {
		count += len(row)
		checkRow(t, what+": All", l.All(gen), row)
		for _, at := range row {
			checkHas(t, l, gen, at, true)
			checkHas(t, l, gen, at-1, slices.Contains(row, at-1))
			checkHas(t, l, gen, at+1, slices.Contains(row, at+1))
		}
	}
	for _, gen := range []int{-1, len(want), math.MinInt, math.MaxInt} {
		checkRow(t, what+": All of no list", l.All(gen), nil)
	}
	if l.Len() != count {
		t.Errorf("%s: Len %d; want %d", what, l.Len(), count)
	}
}
