package bump_test

import (
	"testing"

	"midden/api"
	"midden/bump"
	"midden/pool"
)

// P15.3 and R3: what the range over what was laid tells.

// five lays five things, small and great, and tells them.
func five(t *testing.T) (*bump.Space, *pool.Pool, []thing) {
	t.Helper()
	s, p, _ := made(t, 20)
	lay(t, s, 10, 100, 20, 64, 5)
	return s, p, []thing{{0, 10}, {64, 100}, {10, 20}, {192, 64}, {256, 5}}
}

func TestEachInOrder(t *testing.T) {
	s, _, want := five(t)
	checkTold(t, "Each", list(s.Each()), want)
	checkSpace(t, "behind a range", s, 5, want...)
	s, _, _ = made(t, 1)
	checkTold(t, "of nothing", list(s.Each()), nil)
	lay(t, s, 64)
	checkTold(t, "of one thing", list(s.Each()), []thing{{0, 64}})
}

// The order is that in which things were laid, not that of their places.
func TestEachWherePlacesFall(t *testing.T) {
	s, p, _ := made(t, 6)
	for range 6 {
		p.Alloc(1)
	}
	var want []thing
	for b := 5; b >= 0; b-- {
		p.Free(b)
		checkLay(t, s, 40, b*64)
		checkLay(t, s, 20, b*64+40)
		want = append(want, thing{b * 64, 40}, thing{b*64 + 40, 20})
	}
	checkTold(t, "falling", list(s.Each()), want)
	checkSpace(t, "falling", s, 6, want...)
	checkHas(t, "falling", s, 384, want...)
}

func TestEachIsLeftAnywhereAndGoneOverAgain(t *testing.T) {
	s, _, want := five(t)
	each := s.Each()
	for stop := 1; stop <= 5; stop++ {
		var got []thing
		for at, n := range each {
			if got = append(got, thing{at, n}); len(got) == stop {
				break
			}
		}
		checkTold(t, "left early", got, want[:stop])
		checkTold(t, "gone over again", list(each), want)
	}
}

// changes is all that can be done to a space, so that Each would tell something else.
func changes() map[string]func(*bump.Space) {
	return map[string]func(*bump.Space){
		"one thing is laid": func(s *bump.Space) { s.Lay(3) },
		"many are laid": func(s *bump.Space) {
			for s.Used() < 900 {
				s.Lay(9)
			}
		},
		"all is given back":       func(s *bump.Space) { s.Free() },
		"all is given back twice": func(s *bump.Space) { s.Free(); s.Free() },
		"all is laid anew": func(s *bump.Space) {
			s.Free()
			for range 9 {
				s.Lay(33)
			}
		},
		"all is laid anew, given back and laid again": func(s *bump.Space) {
			s.Free()
			s.Lay(1)
			s.Free()
			s.Lay(2)
			s.Lay(70)
		},
	}
}

func TestEachTellsWhatThereWasWhenItBegan(t *testing.T) {
	for what, change := range changes() {
		for at := range 5 {
			s, _, want := five(t)
			each := s.Each()
			var got []thing
			for place, n := range each {
				if len(got) == at {
					change(s)
				}
				got = append(got, thing{place, n})
			}
			checkTold(t, what+" meanwhile", got, want)
			checkTold(t, what+" meanwhile, and gone over again", list(each), want)
		}
	}
}

// A range begins but once, where it is asked for: neither where it is gone over first, nor where it is gone over again.
func TestEachBeginsWhereItIsAskedFor(t *testing.T) {
	for what, change := range changes() {
		s, _, want := five(t)
		early, late := s.Each(), s.Each()
		checkTold(t, "ahead of a change", list(early), want)
		change(s)
		behind := s.Each()
		now := list(behind)
		for range 2 {
			checkTold(t, what+", gone over again", list(early), want)
			checkTold(t, what+", gone over first behind it", list(late), want)
			checkTold(t, what+", asked for behind it", list(behind), now)
		}
		checkFree(t, s)
		lay(t, s, 7, 8)
		checkTold(t, what+", and given back", list(early), want)
		checkTold(t, what+", and given back", list(late), want)
		checkTold(t, what+", and given back", list(behind), now)
		checkTold(t, "asked for at the end", list(s.Each()), []thing{{0, 7}, {7, 8}})
	}
}

func TestEachOfNothingStaysSo(t *testing.T) {
	s, _, _ := made(t, 4)
	each := s.Each()
	lay(t, s, 3, 4)
	checkTold(t, "asked for ahead of all", list(each), nil)
	checkFree(t, s)
	each = s.Each()
	lay(t, s, 5)
	checkTold(t, "asked for behind Free", list(each), nil)
}

// Ranges that were asked for behind each Lay, all gone over at the end: each has what there was.
func TestEachOfAllBeginnings(t *testing.T) {
	s, _, _ := made(t, 30)
	var want []thing
	ranges := []func(func(int, int) bool){s.Each()}
	for i := range 40 {
		n := 1 + i*37%130
		at, e := s.Lay(n)
		if e != api.OK {
			break
		}
		want = append(want, thing{at, n})
		ranges = append(ranges, s.Each())
	}
	checkFree(t, s)
	lay(t, s, 1, 2, 3)
	if len(ranges) < 15 {
		t.Fatalf("only %d things were laid", len(ranges))
	}
	for i, each := range ranges {
		checkTold(t, "an earlier range", list(each), want[:i])
	}
}

// For each thing that is told another may be laid, as collectors do.
func TestLayForAllThatARangeTells(t *testing.T) {
	s, p, want := five(t)
	to := spaceOf(t, p, arenaOf(t, 20*64))
	n := 0
	for _, words := range s.Each() {
		lay(t, s, words)
		lay(t, to, words)
		n++
	}
	if n != len(want) {
		t.Errorf("told %d things; want %d", n, len(want))
	}
	if l := list(s.Each()); len(l) != 2*len(want) {
		t.Errorf("there are %d things; want %d", len(l), 2*len(want))
	}
	if to.Used() != 199 || s.Used() != 398 {
		t.Errorf("Used %d and %d; want 199, 398", to.Used(), s.Used())
	}
	checkFree(t, s)
	checkFree(t, to)
	checkLeft(t, "both are freed", p, 20)
}

func TestEachWithinItself(t *testing.T) {
	s, _, want := five(t)
	each := s.Each()
	var got []thing
	for at, n := range each {
		checkTold(t, "within itself", list(each), want)
		lay(t, s, 1)
		if anew := list(s.Each()); len(anew) != 6+len(got) {
			t.Errorf("asked for within itself: %d things; want %d", len(anew), 6+len(got))
		}
		got = append(got, thing{at, n})
	}
	checkTold(t, "around itself", got, want)
}

// A loop's own panic is its owner's, and comes through.
func TestEachLeftByPanic(t *testing.T) {
	s, _, want := five(t)
	n := 0
	func() {
		defer func() {
			if x := recover(); x != "enough" {
				t.Errorf("what came through is %v", x)
			}
		}()
		for range s.Each() {
			if n++; n == 2 {
				panic("enough")
			}
		}
	}()
	if n != 2 {
		t.Errorf("left behind %d things; want 2", n)
	}
	checkSpace(t, "behind it", s, 5, want...)
}
