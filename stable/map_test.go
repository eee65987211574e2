package stable_test

import (
	"math"
	"slices"
	"testing"

	"midden/api"
	"midden/stable"
)

// P17.4: Map.

func same(at int) int { return at }

func TestMapTurnsEachAddress(t *testing.T) {
	x := holding(t, 5, 1, 7, mostWords, 7)
	x.Map(func(at int) int { return mostWords + 1 - at })
	checkTable(t, "turned", x, first(mostWords, mostWords-6, 1, mostWords-6)...)
	x.Map(same)
	checkTable(t, "turned to themselves", x, first(mostWords, mostWords-6, 1, mostWords-6)...)
	x.Map(func(at int) int { return mostWords + 1 - at })
	checkTable(t, "turned back", x, first(1, 7, mostWords, 7)...)
}

// What is no address leaves the slot as it is; what is one, at both ends, does not.
func TestMapToNumbersAtBothEndsAndBeyond(t *testing.T) {
	told := slices.Concat(noPlaces(), []int{1, 2, 3, 255, 256, 257, 512, mostWords - 1, mostWords})
	for _, to := range told {
		l := []int{5, 6, mostWords}
		all := holding(t, 4, l...)
		all.Map(func(int) int { return to })
		if isPlace(to) {
			checkTable(t, "all told alike", all, first(to, to, to)...)
		} else {
			checkTable(t, "all told what is none", all, first(l...)...)
		}
		for slot, at := range l {
			x := holding(t, 4, l...)
			x.Map(func(p int) int {
				if p == at {
					return to
				}
				return p - 3
			})
			want := []int{2, 3, mostWords - 3}
			want[slot] = at
			if isPlace(to) {
				want[slot] = to
			}
			checkTable(t, "one told otherwise", x, first(want...)...)
		}
	}
}

// Slot by slot, each just once, and of what is held alone.
func TestMapsOrder(t *testing.T) {
	x := holding(t, 8, 9, 3, 9, 1, 5, 3)
	free(t, x, 257, 260)
	asked := func(f func(int) int) []int {
		var l []int
		x.Map(func(at int) int {
			l = append(l, at)
			return f(at)
		})
		return l
	}
	checkRow(t, "free slots between", asked(same), []int{9, 9, 1, 3})
	checkMake(t, x, 2, 513, api.OK)
	checkRow(t, "made later, asked of earlier", asked(func(at int) int { return at + 100 }), []int{9, 2, 9, 1, 3})
	checkRow(t, "what was told is what is there", asked(func(int) int { return 0 }), []int{109, 102, 109, 101, 103})
	free(t, x, 256, 513, 258, 259, 261)
	checkRow(t, "nothing is held", asked(func(int) int { return 7 }), nil)
	checkTable(t, "nothing is held", x)
}

// A slot that is free holds nothing behind Map either, and its turn is what it was.
func TestMapLeavesFreeSlotsFree(t *testing.T) {
	x := holding(t, 4, 1, 2, 3)
	free(t, x, 257)
	x.Map(func(at int) int { return at + 50 })
	checkStale(t, x, 257, 513, 259)
	checkTable(t, "turned", x, hold{0, 1, 51}, hold{2, 1, 53})
	checkMake(t, x, 9, 513, api.OK)
	checkMake(t, x, 8, 259, api.OK)
	checkTable(t, "made behind Map", x, hold{0, 1, 51}, hold{1, 2, 9}, hold{2, 1, 53}, hold{3, 1, 8})
}

// Handles stay what they were, also where addresses trade places or become one.
func TestHandlesBehindMap(t *testing.T) {
	x := holding(t, 3, 1, 2, 3)
	free(t, x, 257)
	checkMake(t, x, 2, 513, api.OK)
	for range 100 {
		x.Map(func(at int) int { return at%3 + 1 })
	}
	checkTable(t, "in turn", x, hold{0, 1, 2}, hold{1, 2, 3}, hold{2, 1, 1})
	x.Map(func(int) int { return 4 })
	checkTable(t, "all at one", x, hold{0, 1, 4}, hold{1, 2, 4}, hold{2, 1, 4})
	free(t, x, 513)
	checkStale(t, x, 257, 513)
	checkTable(t, "one was freed", x, hold{0, 1, 4}, hold{2, 1, 4})
}

func TestMapOfANilFunction(t *testing.T) {
	x := holding(t, 4, 5, 6, 7)
	free(t, x, 256)
	x.Map(nil)
	checkTable(t, "a nil function", x, hold{1, 1, 6}, hold{2, 1, 7})
	made(t, 1).Map(nil)
}

// R1 and R3 of functions that are handed in: whatever they do.

// A function that gives up tells nothing: nothing is turned, and the table goes on as any.
func TestMapOfAFunctionThatPanics(t *testing.T) {
	for give := range 4 {
		x := holding(t, 5, 10, 20, 30, 40)
		n := 0
		x.Map(func(at int) int {
			if n++; n > give {
				panic("no more")
			}
			return at + 1
		})
		checkTable(t, "behind a panic", x, first(10, 20, 30, 40)...)
		x.Map(func(at int) int { return at + 2 })
		checkMake(t, x, 50, 260, api.OK)
		free(t, x, 257)
		checkTable(t, "goes on", x, hold{0, 1, 12}, hold{2, 1, 32}, hold{3, 1, 42}, hold{4, 1, 50})
	}
}

func TestMapOfAFunctionThatPanicsInOtherWays(t *testing.T) {
	x := holding(t, 2, 5, 6)
	x.Map(func(int) int { panic(nil) })
	x.Map(func(int) int { var l []int; return l[3] })
	x.Map(func(int) int { var p *int; return *p })
	checkTable(t, "behind a panic", x, first(5, 6)...)
}

func TestMapOfAFunctionThatLooks(t *testing.T) {
	x := holding(t, 3, 1, 2)
	n := 0
	x.Map(func(at int) int {
		n++
		checkTable(t, "looked at meanwhile", x, first(1, 2)...)
		return at + 100
	})
	if n != 2 {
		t.Errorf("asked %d times; want 2", n)
	}
	checkTable(t, "turned", x, first(101, 102)...)
}

// Those addresses are turned that there were when Map began, and whose handles nobody freed since; what was made meanwhile is as it was made.
func TestMapOfAFunctionThatMakesAndFrees(t *testing.T) {
	for _, c := range []struct {
		what string
		do   func(x *stable.Table)
		want []hold
	}{
		{"makes", func(x *stable.Table) { x.Make(50) },
			[]hold{{0, 1, 101}, {1, 1, 102}, {2, 1, 103}, {3, 1, 50}}},
		{"frees the first", func(x *stable.Table) { x.Free(256) },
			[]hold{{1, 1, 102}, {2, 1, 103}}},
		{"frees the last", func(x *stable.Table) { x.Free(258) },
			[]hold{{0, 1, 101}, {1, 1, 102}}},
		{"frees all", func(x *stable.Table) { x.Free(256); x.Free(257); x.Free(258) }, nil},
		{"frees and makes the same", func(x *stable.Table) { x.Free(257); x.Make(2) },
			[]hold{{0, 1, 101}, {1, 2, 2}, {2, 1, 103}}},
		{"frees and makes another, twice", func(x *stable.Table) { x.Free(256); x.Make(60); x.Free(512); x.Make(61) },
			[]hold{{0, 3, 61}, {1, 1, 102}, {2, 1, 103}}},
		{"makes and frees it", func(x *stable.Table) { x.Make(50); x.Free(259) },
			[]hold{{0, 1, 101}, {1, 1, 102}, {2, 1, 103}}},
		{"frees what is stale", func(x *stable.Table) { x.Free(512); x.Free(0); x.Free(259); x.Make(0) },
			[]hold{{0, 1, 101}, {1, 1, 102}, {2, 1, 103}}},
		{"turns", func(x *stable.Table) { x.Map(func(at int) int { return at + 7 }) },
			[]hold{{0, 1, 101}, {1, 1, 102}, {2, 1, 103}}},
		{"makes, and turns", func(x *stable.Table) { x.Make(50); x.Map(func(at int) int { return at + 7 }) },
			[]hold{{0, 1, 101}, {1, 1, 102}, {2, 1, 103}, {3, 1, 57}}},
		{"turns by one that frees and makes", func(x *stable.Table) {
			x.Map(func(at int) int {
				if at == 2 {
					x.Free(257)
					x.Make(60)
				}
				return at + 7
			})
		}, []hold{{0, 1, 101}, {1, 2, 60}, {2, 1, 103}}},
		{"turns by one that panics", func(x *stable.Table) { x.Free(256); x.Map(func(int) int { panic("no") }) },
			[]hold{{1, 1, 102}, {2, 1, 103}}},
	} {
		x := holding(t, 4, 1, 2, 3)
		var asked []int
		x.Map(func(at int) int {
			asked = append(asked, at)
			if len(asked) == 1 {
				c.do(x)
			}
			return at + 100
		})
		checkTable(t, "a function that "+c.what, x, c.want...)
		checkRow(t, "a function that "+c.what+" was asked of", asked, []int{1, 2, 3})
		for _, w := range c.want {
			free(t, x, w.handle())
			checkStale(t, x, w.handle())
		}
		checkTable(t, "all are freed behind a function that "+c.what, x)
	}
}

// One that frees its own and makes another whenever it is asked: Map ends all the same, and no handle is told twice.
func TestMapOfAFunctionThatAlwaysFreesAndMakes(t *testing.T) {
	x := holding(t, 3, 1, 2, 3)
	told := []int{256, 257, 258}
	for round := 1; round <= 50; round++ {
		slot := 0
		x.Map(func(at int) int {
			free(t, x, round*256+slot)
			h, _ := x.Make(at)
			told = append(told, h)
			slot++
			return at + 100
		})
		checkTable(t, "it freed and made", x, hold{0, round + 1, 1}, hold{1, round + 1, 2}, hold{2, round + 1, 3})
	}
	checkTwice(t, told)
}

// A function that turns another table turns that one alone.
func TestMapWithinAMapOfAnotherTable(t *testing.T) {
	one, other := holding(t, 2, 1, 2), holding(t, 2, 3)
	one.Map(func(at int) int {
		other.Map(func(p int) int { return p * 10 })
		return at + 100
	})
	checkTable(t, "the outer one", one, first(101, 102)...)
	checkTable(t, "the inner one", other, first(300)...)
}

// Sums of a function's own may run round: what they come to is what counts.
func TestMapOfAFunctionThatRunsRound(t *testing.T) {
	x := holding(t, 3, 1, 2, 3)
	x.Map(func(at int) int { return math.MaxInt + at })
	checkTable(t, "run round to below 0", x, first(1, 2, 3)...)
	x.Map(func(at int) int { return at * (math.MaxInt/2 + 1) * 4 })
	checkTable(t, "run round to 0", x, first(1, 2, 3)...)
	x.Map(func(at int) int { return math.MinInt + at + math.MaxInt + 1 })
	checkTable(t, "run round to themselves", x, first(1, 2, 3)...)
}
