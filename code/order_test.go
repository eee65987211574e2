package code_test

import (
	"testing"

	"midden/api"
)

// orderly is a right code in which all kinds of things stand.
func orderly() api.Code {
	return api.Code{
		Cons:    []api.Con{{Name: "C", Arity: 2}, {Name: "D"}, {Name: "E", Arity: 8}},
		Globals: []api.Global{{Name: "f"}, {Name: "main", Info: 1}},
		Infos: []api.Info{
			{Kind: api.KFun, Arity: 2},
			{Kind: api.KThunk, To: 7},
			{Kind: api.KFun, Arity: 1, Free: 2, To: 9},
			{Kind: api.KThunk, Free: 3, To: 10},
		},
		Insns: []api.Insn{
			0:  choice(2, 2, []int{0, -1}, []int{1}),
			1:  call(2, 0, 1, -2),
			2:  arms(2, onCon(0, 3), onCon(1, 4), onInt(5, 4), onAll(5)),
			3:  primitive(4, 1, 2, 3),
			4:  ret(2, 1),
			5:  let(2, con(0, 0, 6), con(1), num(7), fun(2, 4, -1), thunk(3, 1, 2, 5), pick(0, 1, 2)),
			6:  call(8, 4, 0, 1, 2, 3, 4, 5, 6, 7),
			7:  let(0, num(1)),
			8:  call(1, -1, 0, 0),
			9:  ret(3, 2),
			10: primitive(3, 15, 0, 1, 2),
		},
	}
}

// A spoiling makes one fault.
type spoiling struct {
	do func(c *api.Code)
	fault
}

// spoil makes a spoiling of what is done to one instruction.
func spoil(at int, e api.Errno, do func(x *api.Insn)) spoiling {
	return spoiling{func(c *api.Code) { do(&c.Insns[at]) }, fault{at, e}}
}

// spoilings are faults that the code may be given, in the chapter's order.
func spoilings() []spoiling {
	return append([]spoiling{
		{func(c *api.Code) { c.Cons[0].Arity = 9 }, fault{0, api.ErrArity}},
		{func(c *api.Code) { c.Cons[1].Arity = -1 }, fault{1, api.ErrArity}},
		{func(c *api.Code) { c.Cons[2].Arity = 9 }, fault{2, api.ErrArity}},

		{func(c *api.Code) { c.Infos[0].Kind = api.KCon }, fault{0, api.ErrKind}},
		{func(c *api.Code) { c.Infos[0].Arity = 0 }, fault{0, api.ErrArity}},
		{func(c *api.Code) { c.Infos[0].Free = -1 }, fault{0, api.ErrArity}},
		{func(c *api.Code) { c.Infos[0].To = 11 }, fault{0, api.ErrRange}},
		{func(c *api.Code) { c.Infos[0].To = 3 }, fault{0, api.ErrSize}},
		{func(c *api.Code) { c.Infos[1].Kind = 0 }, fault{1, api.ErrKind}},
		{func(c *api.Code) { c.Infos[1].Arity = 1 }, fault{1, api.ErrArity}},
		{func(c *api.Code) { c.Infos[1].To = -1 }, fault{1, api.ErrRange}},
		{func(c *api.Code) { c.Infos[1].To = 8 }, fault{1, api.ErrSize}},
		{func(c *api.Code) { c.Infos[2].Kind = api.KInt }, fault{2, api.ErrKind}},
		{func(c *api.Code) { c.Infos[2].Free = 256 }, fault{2, api.ErrArity}},
		{func(c *api.Code) { c.Infos[2].To = 99 }, fault{2, api.ErrRange}},
		{func(c *api.Code) { c.Infos[2].To = 0 }, fault{2, api.ErrSize}},
		{func(c *api.Code) { c.Infos[3].Kind = api.KAp }, fault{3, api.ErrKind}},
		{func(c *api.Code) { c.Infos[3].Arity = -1 }, fault{3, api.ErrArity}},
		{func(c *api.Code) { c.Infos[3].To = 11 }, fault{3, api.ErrRange}},
		{func(c *api.Code) { c.Infos[3].To = 1 }, fault{3, api.ErrSize}},

		{func(c *api.Code) { c.Globals[0].Info = 4 }, fault{0, api.ErrRange}},
		{func(c *api.Code) { c.Globals[0].Info = 2 }, fault{0, api.ErrKind}},
		{func(c *api.Code) { c.Globals[1].Info = -1 }, fault{1, api.ErrRange}},
		{func(c *api.Code) { c.Globals[1].Info = 3 }, fault{1, api.ErrKind}},
	}, insnSpoilings()...)
}

func insnSpoilings() []spoiling {
	return []spoiling{
		spoil(0, api.ErrKind, func(x *api.Insn) { x.Op = 0 }),
		spoil(0, api.ErrRange, func(x *api.Insn) { x.List[1] = -3 }),
		spoil(0, api.ErrRange, func(x *api.Insn) { x.Keep[0] = 2 }),
		spoil(0, api.ErrRange, func(x *api.Insn) { x.A = 11 }),
		spoil(0, api.ErrKind, func(x *api.Insn) { x.A = 1 }),
		spoil(0, api.ErrSize, func(x *api.Insn) { x.List = append(x.List, 0) }),
		spoil(0, api.ErrSize, func(x *api.Insn) { x.Keep = append(x.Keep, 0) }),

		spoil(1, api.ErrKind, func(x *api.Insn) { x.Op = 7 }),
		spoil(1, api.ErrArity, func(x *api.Insn) { x.List = append(x.List, repeated(0, 7)...) }),
		spoil(1, api.ErrRange, func(x *api.Insn) { x.A = 2 }),
		spoil(1, api.ErrRange, func(x *api.Insn) { x.List[0] = 2 }),

		spoil(2, api.ErrKind, func(x *api.Insn) { x.Arms = append(x.Arms, api.Arm{Kind: 4}) }),
		spoil(2, api.ErrArity, func(x *api.Insn) { x.Arms = x.Arms[:0] }),
		spoil(2, api.ErrCon, func(x *api.Insn) { x.Arms[0].Con = 3 }),
		spoil(2, api.ErrCon, func(x *api.Insn) { x.Arms[1].Con = -1 }),
		spoil(2, api.ErrRange, func(x *api.Insn) { x.Arms[2].To = 11 }),
		spoil(2, api.ErrRange, func(x *api.Insn) { x.Arms[3].To = -1 }),
		spoil(2, api.ErrSize, func(x *api.Insn) { x.Arms[0].To = 4 }),
		spoil(2, api.ErrSize, func(x *api.Insn) { x.Arms[2].To = 3 }),

		spoil(3, api.ErrKind, func(x *api.Insn) { x.Op = -1 }),
		spoil(3, api.ErrArity, func(x *api.Insn) { x.List = append(x.List, 0) }),
		spoil(3, api.ErrRange, func(x *api.Insn) { x.List[1] = 4 }),

		spoil(4, api.ErrKind, func(x *api.Insn) { x.Op = 99 }),
		spoil(4, api.ErrRange, func(x *api.Insn) { x.A = -3 }),

		spoil(5, api.ErrKind, func(x *api.Insn) { x.Makes[5].Kind = api.KAp }),
		spoil(5, api.ErrArity, func(x *api.Insn) { x.Makes[1].From = []int{99} }),
		spoil(5, api.ErrArity, func(x *api.Insn) { x.Makes[5].From = append(x.Makes[5].From, 99) }),
		spoil(5, api.ErrCon, func(x *api.Insn) { x.Makes[0].Info = 3 }),
		spoil(5, api.ErrCon, func(x *api.Insn) { x.Makes[3].Info = 3 }),
		spoil(5, api.ErrCon, func(x *api.Insn) { x.Makes[4].Info = -1 }),
		spoil(5, api.ErrCon, func(x *api.Insn) { x.Makes[5].N = 2 }),
		spoil(5, api.ErrRange, func(x *api.Insn) { x.Makes[4].From[2] = 9 }),
		spoil(5, api.ErrRange, func(x *api.Insn) { x.Makes[3].From[1] = -3 }),
		spoil(5, api.ErrSize, func(x *api.Insn) { x.Makes = append(x.Makes, num(1)) }),

		spoil(6, api.ErrSize, func(x *api.Insn) { x.Op, x.B = api.IRet, 1001 }).movedTo(5),
		spoil(6, api.ErrKind, func(x *api.Insn) { x.Op = 0 }),
		spoil(6, api.ErrArity, func(x *api.Insn) { x.List = append(x.List, 0) }),
		spoil(6, api.ErrRange, func(x *api.Insn) { x.List[7] = 8 }),

		spoil(7, api.ErrKind, func(x *api.Insn) { x.Makes = append(x.Makes, api.Make{Kind: api.KInd}) }),
		spoil(7, api.ErrArity, func(x *api.Insn) { x.Makes = nil }),
		spoil(7, api.ErrSize, func(x *api.Insn) { x.Makes = append(x.Makes, num(2)) }),

		spoil(8, api.ErrKind, func(x *api.Insn) { x.Op = 8 }),
		spoil(8, api.ErrRange, func(x *api.Insn) { x.A = 1 }),

		spoil(9, api.ErrKind, func(x *api.Insn) { x.Op = 0 }),
		spoil(9, api.ErrRange, func(x *api.Insn) { x.A = 3 }),

		spoil(10, api.ErrKind, func(x *api.Insn) { x.Op = 0 }),
		spoil(10, api.ErrPrim, func(x *api.Insn) { x.A = 17 }),
		spoil(10, api.ErrRange, func(x *api.Insn) { x.List[0] = 3 }),
	}
}

// movedTo says that a fault shows at the instruction that goes there.
func (s spoiling) movedTo(at int) spoiling {
	s.at = at
	return s
}

// Each fault alone is told, and of each two that the code has, the one that the chapter names first. The one behind is
// made first, so that the other one can't be undone by it.
func TestOfTwoFaultsTheFirst(t *testing.T) {
	agree(t, orderly(), fault{})
	rightHeads(t, orderly())
	if s := follow(orderly()); s != "" {
		t.Error(s)
	}
	all := spoilings()
	for i, first := range all {
		c := orderly()
		first.do(&c)
		agree(t, c, first.fault)
		for _, second := range all[i+1:] {
			c := orderly()
			second.do(&c)
			first.do(&c)
			agree(t, c, first.fault)
		}
	}
}

// ranks are ways to spoil one instruction that nothing leads to, so that its B may be whatever it is, in the chapter's order.
type ranks struct {
	name  string
	right func() api.Code
	all   []spoiling
}

func letRanks() ranks {
	return ranks{"ILet", func() api.Code {
		return about(let(2, con(0, 0, 1), con(1), fun(2, 0, 1), thunk(3, 5), pick(0, 1, 0)), ret(7, 6))
	}, []spoiling{
		spoil(begin, api.ErrKind, func(x *api.Insn) { x.Op = 7 }),
		spoil(begin, api.ErrKind, func(x *api.Insn) { x.Makes[4].Kind = 5 }),
		spoil(begin, api.ErrSize, func(x *api.Insn) { x.B = -1 }),
		spoil(begin, api.ErrSize, func(x *api.Insn) { x.B = 1001 }),
		spoil(begin, api.ErrArity, func(x *api.Insn) { x.Makes[1].From = []int{0} }),
		spoil(begin, api.ErrCon, func(x *api.Insn) { x.Makes[0].Info = 2 }),
		spoil(begin, api.ErrCon, func(x *api.Insn) { x.Makes[4].N = 2 }),
		spoil(begin, api.ErrRange, func(x *api.Insn) { x.Makes[3].From[0] = 99 }),
		spoil(begin, api.ErrSize, func(x *api.Insn) { x.Makes = append(x.Makes, num(5)) }),
	}}
}

func callRanks() ranks {
	return ranks{"ICall", func() api.Code { return about(call(2, 0, 1, 1)) }, []spoiling{
		spoil(begin, api.ErrKind, func(x *api.Insn) { x.Op = 0 }),
		spoil(begin, api.ErrSize, func(x *api.Insn) { x.B = 1001 }),
		spoil(begin, api.ErrArity, func(x *api.Insn) { x.List = append(x.List, repeated(99, 7)...) }),
		spoil(begin, api.ErrRange, func(x *api.Insn) { x.List[0] = 1001 }),
	}}
}

func retRanks() ranks {
	return ranks{"IRet", func() api.Code { return about(ret(2, 1)) }, []spoiling{
		spoil(begin, api.ErrKind, func(x *api.Insn) { x.Op = -3 }),
		spoil(begin, api.ErrSize, func(x *api.Insn) { x.B = -1 }),
		spoil(begin, api.ErrRange, func(x *api.Insn) { x.A = 2 }),
	}}
}

func caseRanks() ranks {
	return ranks{"ICase", func() api.Code {
		return about(choice(2, begin+2, []int{0, 1, -1}, []int{1}), ret(3, 0), arms(2, onAll(begin+3)), ret(2, 0))
	}, []spoiling{
		spoil(begin, api.ErrKind, func(x *api.Insn) { x.Op = 0 }),
		spoil(begin, api.ErrSize, func(x *api.Insn) { x.B = 1001 }),
		spoil(begin, api.ErrRange, func(x *api.Insn) { x.List[0] = 1001 }),
		spoil(begin, api.ErrRange, func(x *api.Insn) { x.Keep[0] = -3 }),
		spoil(begin, api.ErrRange, func(x *api.Insn) { x.A = begin + 4 }),
		spoil(begin, api.ErrKind, func(x *api.Insn) { x.A = begin + 3 }),
		spoil(begin, api.ErrSize, func(x *api.Insn) { x.List = append(x.List, 0) }),
	}}
}

func armsRanks() ranks {
	return ranks{"IArms", func() api.Code {
		return about(arms(1, onCon(0, begin+1), onInt(1, begin+2), onAll(begin+2)), ret(3, 0), ret(1, 0))
	}, []spoiling{
		spoil(begin, api.ErrKind, func(x *api.Insn) { x.Op = 0 }),
		spoil(begin, api.ErrKind, func(x *api.Insn) { x.Arms[2].Kind = 0 }),
		spoil(begin, api.ErrSize, func(x *api.Insn) { x.B = 0 }),
		spoil(begin, api.ErrSize, func(x *api.Insn) { x.B = 1001 }),
		spoil(begin, api.ErrCon, func(x *api.Insn) { x.Arms[0].Con = 2 }),
		spoil(begin, api.ErrRange, func(x *api.Insn) { x.Arms[1].To = begin + 3 }),
		spoil(begin, api.ErrSize, func(x *api.Insn) { x.Arms[2].To = begin + 1 }),
	}}
}

func primRanks() ranks {
	return ranks{"IPrim", func() api.Code { return about(primitive(2, 15, 0, 1, -1)) }, []spoiling{
		spoil(begin, api.ErrKind, func(x *api.Insn) { x.Op = 0 }),
		spoil(begin, api.ErrSize, func(x *api.Insn) { x.B = -1 }),
		spoil(begin, api.ErrPrim, func(x *api.Insn) { x.A = 0 }),
		spoil(begin, api.ErrRange, func(x *api.Insn) { x.List[2] = 2 }),
	}}
}

// Of one instruction each two, and all of them from one on.
func TestFaultsOfOneInstruction(t *testing.T) {
	for _, r := range []ranks{letRanks(), callRanks(), retRanks(), caseRanks(), armsRanks(), primRanks()} {
		agree(t, r.right(), fault{})
		for i, first := range r.all {
			for _, second := range r.all[i:] {
				c := r.right()
				second.do(&c)
				first.do(&c)
				agree(t, c, first.fault)
			}
			c := r.right()
			for j := len(r.all) - 1; j >= i; j-- {
				r.all[j].do(&c)
			}
			agree(t, c, first.fault)
		}
	}
	// Counts ahead of a constructor, places ahead of ways, and no arms at all ahead of whatever else.
	agree(t, about(arms(0), ret(0, -1)), fault{begin, api.ErrSize})
	agree(t, about(arms(1001)), fault{begin, api.ErrSize})
	agree(t, about(primitive(2, 15, 99, 99)), fault{begin, api.ErrArity})
	agree(t, about(let(2, con(0, 99), fun(9))), fault{begin, api.ErrArity})
	agree(t, about(let(2, pick(9, 9))), fault{begin, api.ErrArity})
}
