package pool_test

import (
	"iter"
	"math"
	"slices"
	"testing"

	"midden/api"
	"midden/pool"
)

// Numbers of int that are no block and no count of any pool, from all over its range.
var (
	farBelow = []int{math.MinInt, math.MinInt + 1, -1 << 62, -1 << 32, -1<<32 + 1, -1 << 31, -4097, -4096, -64, -2, -1}
	farAbove = []int{4097, 1 << 13, 1 << 16, 1<<31 - 1, 1 << 31, 1<<32 - 1, 1 << 32, 1<<32 + 1, 1 << 61, 1 << 62, math.MaxInt - 8, math.MaxInt - 1, math.MaxInt}
)

// part is a run or a group: its first block, and how many.
type part struct{ first, many int }

// rule is a pool by the chapter's words alone: the groups in no order, all other blocks free.
type rule struct {
	blocks int
	groups []part
}

// holder tells the group that has a block.
func (r rule) holder(block int) (part, bool) {
	for _, g := range r.groups {
		if block >= g.first && block-g.first < g.many {
			return g, true
		}
	}
	return part{}, false
}

func (r rule) isFree(block int) bool {
	_, held := r.holder(block)
	return block >= 0 && block < r.blocks && !held
}

func (r rule) sorted() []part {
	groups := slices.Clone(r.groups)
	slices.SortFunc(groups, func(a, b part) int { return a.first - b.first })
	return groups
}

func (r rule) runs() []part {
	var runs []part
	for block := range r.blocks {
		if !r.isFree(block) || r.isFree(block-1) {
			continue
		}
		end := block
		for r.isFree(end) {
			end++
		}
		runs = append(runs, part{block, end - block})
	}
	return runs
}

func (r rule) left() int {
	left := 0
	for block := range r.blocks {
		if r.isFree(block) {
			left++
		}
	}
	return left
}

func (r rule) longest() int {
	longest := 0
	for _, run := range r.runs() {
		if run.many > longest {
			longest = run.many
		}
	}
	return longest
}

// alloc says what Alloc answers, and what the pool is then.
func (r rule) alloc(n int) (rule, int, api.Errno) {
	if n < 1 {
		return r, 0, api.ErrSize
	}
	for _, run := range r.runs() {
		if run.many >= n {
			return rule{r.blocks, append(slices.Clone(r.groups), part{run.first, n})}, run.first, api.OK
		}
	}
	return r, 0, api.ErrFull
}

// free says what Free answers, and what the pool is then.
func (r rule) free(first int) (rule, api.Errno) {
	for i, g := range r.groups {
		if g.first == first {
			return rule{r.blocks, slices.Delete(slices.Clone(r.groups), i, i+1)}, api.OK
		}
	}
	return r, api.ErrFree
}

func (r rule) group(block int) (int, int, api.Errno) {
	if block < 0 || block >= r.blocks {
		return 0, 0, api.ErrRange
	}
	if r.isFree(block) {
		return 0, 0, api.ErrFree
	}
	g, _ := r.holder(block)
	return g.first, g.many, api.OK
}

func made(t *testing.T, blocks int) *pool.Pool {
	t.Helper()
	p, e := pool.New(blocks)
	if e != api.OK || p == nil {
		t.Fatalf("New(%d): a pool %t, error %d", blocks, p != nil, int(e))
	}
	return p
}

// laid makes a pool whose blocks are groups of these counts in a row, and behind them so many that are free; those of a count below 0 are free again.
func laid(t *testing.T, behind int, counts ...int) *pool.Pool {
	t.Helper()
	blocks := behind
	for _, n := range counts {
		blocks += max(n, -n)
	}
	p := made(t, blocks)
	var gone []int
	for _, n := range counts {
		first := alloc(t, p, max(n, -n))
		if n < 0 {
			gone = append(gone, first)
		}
	}
	for _, first := range gone {
		release(t, p, first)
	}
	return p
}

func alloc(t *testing.T, p *pool.Pool, n int) int {
	t.Helper()
	first, e := p.Alloc(n)
	if e != api.OK {
		t.Fatalf("Alloc(%d): error %d", n, int(e))
	}
	return first
}

func release(t *testing.T, p *pool.Pool, first int) {
	t.Helper()
	if e := p.Free(first); e != api.OK {
		t.Fatalf("Free(%d): error %d", first, int(e))
	}
}

func list(s iter.Seq2[int, int]) []part {
	var parts []part
	for first, many := range s {
		parts = append(parts, part{first, many})
	}
	return parts
}

func checkParts(t *testing.T, what string, got []part, want ...part) {
	t.Helper()
	if !slices.Equal(got, want) {
		t.Errorf("%s: %v; want %v", what, got, want)
	}
}

func checkAlloc(t *testing.T, p *pool.Pool, n, first int, want api.Errno) {
	t.Helper()
	if got, e := p.Alloc(n); got != first || e != want {
		t.Errorf("Alloc(%d) = %d, error %d; want %d, %d", n, got, int(e), first, int(want))
	}
}

func checkFree(t *testing.T, p *pool.Pool, first int, want api.Errno) {
	t.Helper()
	if e := p.Free(first); e != want {
		t.Errorf("Free(%d): error %d; want %d", first, int(e), int(want))
	}
}

func checkGroup(t *testing.T, p *pool.Pool, block, first, many int, want api.Errno) {
	t.Helper()
	if f, m, e := p.Group(block); f != first || m != many || e != want {
		t.Errorf("Group(%d) = %d, %d, error %d; want %d, %d, %d", block, f, m, int(e), first, many, int(want))
	}
}

// checkPool holds all that a pool tells against the rule.
func checkPool(t *testing.T, what string, p *pool.Pool, r rule) {
	t.Helper()
	checkParts(t, what+": Runs", list(p.Runs()), r.runs()...)
	checkParts(t, what+": Groups", list(p.Groups()), r.sorted()...)
	if p.Left() != r.left() || p.Longest() != r.longest() {
		t.Errorf("%s: Left %d, Longest %d; want %d, %d", what, p.Left(), p.Longest(), r.left(), r.longest())
	}
	for block := -1; block <= r.blocks; block++ {
		first, many, e := r.group(block)
		checkGroup(t, p, block, first, many, e)
	}
}

// P3.1

func TestNewMakesBlocksThatAreAllFree(t *testing.T) {
	for _, n := range []int{1, 2, 3, 8, 63, 64, 65, 4095, 4096} {
		checkPool(t, "a new pool", made(t, n), rule{blocks: n})
	}
}

func TestNewRefusesOtherSizes(t *testing.T) {
	for _, n := range slices.Concat(farBelow, []int{0}, farAbove) {
		if p, e := pool.New(n); p != nil || e != api.ErrSize {
			t.Errorf("New(%d): a pool %t, error %d; want none, %d", n, p != nil, int(e), int(api.ErrSize))
		}
	}
}

func TestPoolsShareNothing(t *testing.T) {
	p, q := made(t, 6), made(t, 6)
	alloc(t, p, 4)
	checkPool(t, "the other pool", q, rule{blocks: 6})
	alloc(t, q, 1)
	checkPool(t, "the first pool", p, rule{6, []part{{0, 4}}})
}

// P3.2

func TestExampleOfTheChapter(t *testing.T) {
	p := made(t, 8)
	checkAlloc(t, p, 3, 0, api.OK)
	checkAlloc(t, p, 2, 3, api.OK)
	checkFree(t, p, 0, api.OK)
	checkAlloc(t, p, 4, 0, api.ErrFull)
	checkAlloc(t, p, 2, 0, api.OK)
	checkParts(t, "Runs", list(p.Runs()), part{2, 1}, part{5, 3})
	checkFree(t, p, 3, api.OK)
	checkParts(t, "Runs", list(p.Runs()), part{2, 6})
}

func TestAllocOfFewerThanOneBlock(t *testing.T) {
	full := rule{4, []part{{0, 4}}}
	p, q := made(t, 4), laid(t, 0, 4)
	for _, n := range append([]int{0}, farBelow...) {
		checkAlloc(t, p, n, 0, api.ErrSize)
		checkAlloc(t, q, n, 0, api.ErrSize)
	}
	checkPool(t, "behind what was refused", p, rule{blocks: 4})
	checkPool(t, "a full pool behind what was refused", q, full)
}

func TestAllocOfMoreThanThereIs(t *testing.T) {
	for _, blocks := range []int{1, 2, 7, 4095, 4096} {
		p := made(t, blocks)
		for _, n := range append([]int{blocks + 1}, farAbove...) {
			checkAlloc(t, p, n, 0, api.ErrFull)
		}
		checkPool(t, "behind what was refused", p, rule{blocks: blocks})
		checkAlloc(t, p, blocks, 0, api.OK)
		checkAlloc(t, p, 1, 0, api.ErrFull)
		checkPool(t, "a full pool", p, rule{blocks, []part{{0, blocks}}})
	}
}

// Two runs have as many blocks as the longest, a lower one has fewer, and the last is the longest but one.
func TestAllocTakesTheLowestRunThatHasSoMany(t *testing.T) {
	groups := []part{{0, 1}, {2, 1}, {6, 1}, {10, 2}}
	for _, c := range []struct {
		n, first int
		e        api.Errno
	}{{1, 1, api.OK}, {2, 3, api.OK}, {3, 3, api.OK}, {4, 0, api.ErrFull}} {
		p := laid(t, 2, 1, -1, 1, -3, 1, -3, 2)
		want := rule{14, groups}
		checkPool(t, "a pool of four runs", p, want)
		checkAlloc(t, p, c.n, c.first, c.e)
		if c.e == api.OK {
			want = rule{14, append(slices.Clone(groups), part{c.first, c.n})}
		}
		checkPool(t, "behind Alloc", p, want)
	}
}

func TestAllocTakesRunsOneBehindTheOther(t *testing.T) {
	p := laid(t, 0, -3, 1, -3, 1, -3)
	for _, first := range []int{0, 4, 8} {
		checkAlloc(t, p, 3, first, api.OK)
	}
	checkAlloc(t, p, 3, 0, api.ErrFull)
	checkAlloc(t, p, 1, 0, api.ErrFull)
}

// P3.3

func TestFreeOfWhatIsNoGroupsFirst(t *testing.T) {
	want := rule{9, []part{{0, 1}, {3, 4}}}
	p := laid(t, 2, 1, -2, 4)
	others := []int{1, 2, 4, 5, 6, 7, 8, 9, 10, 4095, 4096}
	for _, first := range slices.Concat(farBelow, others, farAbove) {
		checkFree(t, p, first, api.ErrFree)
	}
	checkPool(t, "behind what was refused", p, want)
}

func TestFreeOfAGroupTwice(t *testing.T) {
	p := laid(t, 1, 2, 2)
	checkFree(t, p, 2, api.OK)
	checkFree(t, p, 2, api.ErrFree)
	checkPool(t, "behind both", p, rule{5, []part{{0, 2}}})
}

// A block that was a group's first is none any more when a greater group has it within.
func TestFreeOfAFirstThatWas(t *testing.T) {
	p := laid(t, 1, -2, -2)
	checkAlloc(t, p, 5, 0, api.OK)
	checkFree(t, p, 2, api.ErrFree)
	checkGroup(t, p, 2, 0, 5, api.OK)
	checkFree(t, p, 0, api.OK)
	checkPool(t, "behind Free", p, rule{blocks: 5})
}

func TestFreedGroupJoinsItsNeighbours(t *testing.T) {
	for _, c := range []struct {
		what   string
		counts []int
		first  int
		runs   []part
	}{
		{"none", []int{2, 3, 1}, 2, []part{{2, 3}}},
		{"none, at the beginning", []int{3, 2}, 0, []part{{0, 3}}},
		{"none, at the end", []int{2, 3}, 2, []part{{2, 3}}},
		{"left", []int{1, -2, 3, 1}, 3, []part{{1, 5}}},
		{"left, at the end", []int{1, -2, 3}, 3, []part{{1, 5}}},
		{"right", []int{1, 3, -2, 1}, 1, []part{{1, 5}}},
		{"right, at the beginning", []int{3, -2, 1}, 0, []part{{0, 5}}},
		{"both", []int{1, -2, 3, -4, 1}, 3, []part{{1, 9}}},
		{"both, and others farther off", []int{-1, 1, -2, 3, -4, 1, -1}, 4, []part{{0, 1}, {2, 9}, {12, 1}}},
	} {
		p := laid(t, 0, c.counts...)
		checkFree(t, p, c.first, api.OK)
		checkParts(t, "Runs behind a Free with a run at: "+c.what, list(p.Runs()), c.runs...)
		checkGroup(t, p, c.first, 0, 0, api.ErrFree)
	}
}

func TestGroupsSideBySideStayApart(t *testing.T) {
	p := laid(t, 0, 1, 1, 3, 2, 1)
	checkPool(t, "groups side by side", p, rule{8, []part{{0, 1}, {1, 1}, {2, 3}, {5, 2}, {7, 1}}})
	checkFree(t, p, 2, api.OK)
	checkPool(t, "behind a Free", p, rule{8, []part{{0, 1}, {1, 1}, {5, 2}, {7, 1}}})
}

func TestGroupRefusesWhatIsNoBlock(t *testing.T) {
	for _, p := range []*pool.Pool{made(t, 5), laid(t, 0, 5), laid(t, 2, 3)} {
		for _, block := range slices.Concat(farBelow, []int{5, 6, 64, 4095, 4096}, farAbove) {
			checkGroup(t, p, block, 0, 0, api.ErrRange)
		}
	}
}

// P3.4

func TestPoolWithoutFreeBlocks(t *testing.T) {
	p := laid(t, 0, 2, 1, 4)
	if p.Left() != 0 || p.Longest() != 0 || list(p.Runs()) != nil {
		t.Errorf("Left %d, Longest %d, Runs %v; want nothing", p.Left(), p.Longest(), list(p.Runs()))
	}
	checkParts(t, "Groups", list(p.Groups()), part{0, 2}, part{2, 1}, part{3, 4})
}

func TestLongestIsWhereverItStands(t *testing.T) {
	for _, counts := range [][]int{{-5, 1, -2, 1, -3}, {-2, 1, -5, 1, -3}, {-2, 1, -3, 1, -5}, {-5, 2, -5}} {
		p := laid(t, 0, counts...)
		left := 0
		for _, n := range counts {
			left += max(0, -n)
		}
		if p.Longest() != 5 || p.Left() != left {
			t.Errorf("%v: Longest %d, Left %d; want 5, %d", counts, p.Longest(), p.Left(), left)
		}
	}
}

// Groups are told by their place, not by when they were made.
func TestGroupsRise(t *testing.T) {
	p := laid(t, 4, 2, -3, 1)
	checkAlloc(t, p, 4, 6, api.OK)
	checkAlloc(t, p, 3, 2, api.OK)
	checkParts(t, "Groups", list(p.Groups()), part{0, 2}, part{2, 3}, part{5, 1}, part{6, 4})
}

// P3.5

func TestNilPool(t *testing.T) {
	var p *pool.Pool
	for _, x := range slices.Concat(farBelow, []int{0, 1, 4096}, farAbove) {
		checkAlloc(t, p, x, 0, api.ErrNil)
		checkFree(t, p, x, api.ErrNil)
		checkGroup(t, p, x, 0, 0, api.ErrNil)
	}
	if p.Left() != 0 || p.Longest() != 0 {
		t.Errorf("Left %d, Longest %d; want 0, 0", p.Left(), p.Longest())
	}
	checkParts(t, "Runs", list(p.Runs()))
	checkParts(t, "Groups", list(p.Groups()))
}

func TestRangesAreLeftAnywhereAndGoneOverAgain(t *testing.T) {
	p := laid(t, 1, -1, 2, -3, 1, -2, 2)
	for what, s := range map[string]iter.Seq2[int, int]{"Runs": p.Runs(), "Groups": p.Groups()} {
		all := list(s)
		for stop := 1; stop <= len(all); stop++ {
			var got []part
			for first, many := range s {
				if got = append(got, part{first, many}); len(got) == stop {
					break
				}
			}
			checkParts(t, what+", left early", got, all[:stop]...)
			checkParts(t, what+", gone over again", list(s), all...)
		}
	}
}

// The pool of the tests of changes, and what it tells before and behind one: no part stays.
var (
	runsBefore   = []part{{0, 1}, {3, 3}, {7, 1}, {9, 3}}
	groupsBefore = []part{{1, 2}, {6, 1}, {8, 1}}
	runsBehind   = []part{{4, 8}}
	groupsBehind = []part{{0, 1}, {1, 3}}
)

func changing(t *testing.T) *pool.Pool {
	t.Helper()
	p := laid(t, 3, -1, 2, -3, 1, -1, 1)
	checkPool(t, "the pool before its change", p, rule{12, groupsBefore})
	return p
}

func change(t *testing.T, p *pool.Pool) {
	t.Helper()
	for _, g := range groupsBefore {
		release(t, p, g.first)
	}
	alloc(t, p, 1)
	alloc(t, p, 3)
	checkPool(t, "the pool behind its change", p, rule{12, groupsBehind})
}

// telling is one of the two ranges, with what it tells of the pool of the tests of changes.
type telling struct {
	what           string
	of             func(*pool.Pool) iter.Seq2[int, int]
	before, behind []part
}

func tellings() []telling {
	return []telling{
		{"Runs", (*pool.Pool).Runs, runsBefore, runsBehind},
		{"Groups", (*pool.Pool).Groups, groupsBefore, groupsBehind},
	}
}

func TestRangeTellsWhatThereWasWhenItBegan(t *testing.T) {
	for _, c := range tellings() {
		for at := range c.before {
			p := changing(t)
			s := c.of(p)
			var got []part
			for first, many := range s {
				if len(got) == at {
					change(t, p)
				}
				got = append(got, part{first, many})
			}
			checkParts(t, c.what+" of a pool that is changed meanwhile", got, c.before...)
			checkParts(t, c.what+", gone over again", list(s), c.before...)
			checkParts(t, c.what+", asked for anew", list(c.of(p)), c.behind...)
		}
	}
}

// A range begins but once, where it is asked for: neither where it is gone over first, nor where it is gone over again.
func TestRangeBeginsWhereItIsAskedFor(t *testing.T) {
	for _, c := range tellings() {
		p := changing(t)
		early, late := c.of(p), c.of(p)
		checkParts(t, c.what+", gone over before a change", list(early), c.before...)
		change(t, p)
		behind := c.of(p)
		for range 2 {
			checkParts(t, c.what+", gone over again behind a change", list(early), c.before...)
			checkParts(t, c.what+", gone over first behind a change", list(late), c.before...)
			checkParts(t, c.what+", asked for behind a change", list(behind), c.behind...)
		}
		for first := range p.Groups() {
			release(t, p, first)
		}
		checkParts(t, c.what+", behind another change", list(early), c.before...)
		checkParts(t, c.what+", behind another change", list(late), c.before...)
		checkParts(t, c.what+", behind another change", list(behind), c.behind...)
	}
}

// One that is left on the way did not begin anew either.
func TestRangeLeftAheadOfAChange(t *testing.T) {
	for _, c := range tellings() {
		for stop := 1; stop <= len(c.before); stop++ {
			p := changing(t)
			s := c.of(p)
			n := 0
			for range s {
				if n++; n == stop {
					break
				}
			}
			change(t, p)
			checkParts(t, c.what+", left ahead of a change", list(s), c.before...)
		}
	}
}

// Of a full pool of one block, and of a free one: what a range told is the other's nothing.
func TestRangesOfOneBlock(t *testing.T) {
	p := made(t, 1)
	freeRuns, freeGroups := p.Runs(), p.Groups()
	alloc(t, p, 1)
	fullRuns, fullGroups := p.Runs(), p.Groups()
	release(t, p, 0)
	for range 2 {
		checkParts(t, "Runs of a free pool", list(freeRuns), part{0, 1})
		checkParts(t, "Groups of a free pool", list(freeGroups))
		checkParts(t, "Runs of a full pool", list(fullRuns))
		checkParts(t, "Groups of a full pool", list(fullGroups), part{0, 1})
		alloc(t, p, 1)
		release(t, p, 0)
	}
	checkParts(t, "Runs, asked for anew", list(p.Runs()), part{0, 1})
	checkParts(t, "Groups, asked for anew", list(p.Groups()))
}

func TestTwoRangesAtOnce(t *testing.T) {
	for _, outer := range tellings() {
		for _, inner := range tellings() {
			p := changing(t)
			s, within := outer.of(p), inner.of(p)
			var got []part
			for first, many := range s {
				anew := inner.before
				if len(got) > 0 {
					anew = inner.behind
				}
				checkParts(t, inner.what+" within "+outer.what, list(within), inner.before...)
				checkParts(t, inner.what+", asked for within "+outer.what, list(inner.of(p)), anew...)
				if len(got) == 0 {
					change(t, p)
				}
				got = append(got, part{first, many})
			}
			checkParts(t, outer.what+" around "+inner.what, got, outer.before...)
		}
	}
}

func TestOneRangeWithinItself(t *testing.T) {
	for _, c := range tellings() {
		s := c.of(changing(t))
		var got []part
		for first, many := range s {
			checkParts(t, c.what+" within itself", list(s), c.before...)
			got = append(got, part{first, many})
		}
		checkParts(t, c.what+" around itself", got, c.before...)
	}
}

// What a range needs may be freed by who ranges: all groups, one by one.
func TestFreeOfAllThatARangeTells(t *testing.T) {
	p := laid(t, 2, 1, 2, -1, 3, 1)
	for first := range p.Groups() {
		checkFree(t, p, first, api.OK)
	}
	checkPool(t, "behind the range", p, rule{blocks: 10})
}

// P3.6

// Every pool of a few blocks that calls can bring about, and of each all calls.
func TestEverySmallPool(t *testing.T) {
	for blocks := 1; blocks <= 6; blocks++ {
		waiting := [][]func(*pool.Pool){nil}
		rules := []rule{{blocks: blocks}}
		for at := 0; at < len(rules); at++ {
			r := rules[at]
			grow := func(next rule, call func(*pool.Pool)) {
				if !slices.ContainsFunc(rules, func(old rule) bool { return slices.Equal(old.sorted(), next.sorted()) }) {
					rules = append(rules, next)
					waiting = append(waiting, append(slices.Clone(waiting[at]), call))
				}
			}
			checkCalls(t, r, func() *pool.Pool { return replayed(t, blocks, waiting[at]) }, grow)
		}
		if want := pools(blocks); len(rules) != want {
			t.Errorf("%d pools of %d blocks; want %d", len(rules), blocks, want)
		}
	}
}

// pools tells how many pools of so many blocks there are: the last block is free, or it is in a group of 1 to all blocks.
func pools(blocks int) int {
	count := []int{1}
	for n := 1; n <= blocks; n++ {
		sum := count[n-1]
		for _, c := range count {
			sum += c
		}
		count = append(count, sum)
	}
	return count[blocks]
}

func replayed(t *testing.T, blocks int, calls []func(*pool.Pool)) *pool.Pool {
	t.Helper()
	p := made(t, blocks)
	for _, call := range calls {
		call(p)
	}
	return p
}

// checkCalls holds every call of a pool against the rule, each on a pool that is made for it, and hands on what comes of it.
func checkCalls(t *testing.T, r rule, fresh func() *pool.Pool, grow func(rule, func(*pool.Pool))) {
	t.Helper()
	checkPool(t, "before any call", fresh(), r)
	for x := -2; x <= r.blocks+2; x++ {
		p := fresh()
		next, first, e := r.alloc(x)
		checkAlloc(t, p, x, first, e)
		checkPool(t, "behind Alloc", p, next)
		grow(next, func(p *pool.Pool) { p.Alloc(x) })

		p = fresh()
		next, e = r.free(x)
		checkFree(t, p, x, e)
		checkPool(t, "behind Free", p, next)
		grow(next, func(p *pool.Pool) { p.Free(x) })
	}
}

// A long row of calls on the greatest pool; what they are hangs on a fixed row of numbers.
func TestGroupsAndRunsAreApartInTheGreatestPool(t *testing.T) {
	const blocks = 4096
	p, r := made(t, blocks), rule{blocks: blocks}
	seed := uint32(1)
	draw := func(n int) int {
		seed = seed*1664525 + 1013904223
		return int(seed>>8) % n
	}
	for step := range 400 {
		if len(r.groups) > 0 && draw(3) == 0 {
			first := r.groups[draw(len(r.groups))].first
			r, _ = r.free(first)
			checkFree(t, p, first, api.OK)
		} else {
			n := 1 + draw(120)
			next, first, e := r.alloc(n)
			r = next
			checkAlloc(t, p, n, first, e)
		}
		checkParts(t, "Runs", list(p.Runs()), r.runs()...)
		checkParts(t, "Groups", list(p.Groups()), r.sorted()...)
		if step%50 == 0 {
			checkPool(t, "on the way", p, r)
			checkTogetherAll(t, p, blocks)
		}
	}
}

// checkTogetherAll asks whether each block stands in just one run or group.
func checkTogetherAll(t *testing.T, p *pool.Pool, blocks int) {
	t.Helper()
	seen := make([]int, blocks)
	for _, s := range []iter.Seq2[int, int]{p.Runs(), p.Groups()} {
		for first, many := range s {
			for i := range many {
				seen[first+i]++
			}
		}
	}
	for block, n := range seen {
		if n != 1 {
			t.Errorf("block %d stands in %d runs and groups; want 1", block, n)
		}
	}
}

// P3.7

func TestAllGroupsFreedInEveryOrder(t *testing.T) {
	counts := []int{1, 3, 2, 1, 4}
	firsts := []int{0, 1, 4, 6, 7}
	for _, behind := range []int{0, 2} {
		for _, order := range orders(firsts) {
			p := laid(t, behind, counts...)
			for _, first := range order {
				checkFree(t, p, first, api.OK)
			}
			checkPool(t, "all groups freed", p, rule{blocks: 11 + behind})
			checkAlloc(t, p, 11+behind, 0, api.OK)
		}
	}
}

// orders tells every order of a list.
func orders(of []int) [][]int {
	if len(of) == 0 {
		return [][]int{nil}
	}
	var all [][]int
	for i, x := range of {
		rest := slices.Delete(slices.Clone(of), i, i+1)
		for _, order := range orders(rest) {
			all = append(all, append([]int{x}, order...))
		}
	}
	return all
}

func TestAllBlocksOfTheGreatestPoolFreed(t *testing.T) {
	const blocks = 4096
	for _, stride := range []int{1, 3, 5, 2047, 4095} {
		p := made(t, blocks)
		for want := range blocks {
			checkAlloc(t, p, 1, want, api.OK)
		}
		checkAlloc(t, p, 1, 0, api.ErrFull)
		for i := range blocks {
			checkFree(t, p, i*stride%blocks, api.OK)
		}
		checkParts(t, "Runs", list(p.Runs()), part{0, blocks})
		checkParts(t, "Groups", list(p.Groups()))
		checkAlloc(t, p, blocks, 0, api.OK)
	}
}
