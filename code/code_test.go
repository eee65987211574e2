package code_test

import (
	"math"
	"slices"
	"testing"

	"midden/api"
	"midden/code"
)

// Numbers from all over int's range that are nothing's number here; the lower half of some is a number that is something's.
var farNumbers = []int{
	math.MinInt, math.MinInt + 1, math.MinInt + 2, -1 << 62, -1<<32 - 1, -1 << 32, -1<<32 + 1, -1<<32 + 3, -1 << 31, -1 << 20, -4096, -1001, -1000, -257, -256, -255,
	1 << 20, 1<<20 + 1, 1<<31 - 1, 1 << 31, 1<<32 - 1, 1 << 32, 1<<32 + 1, 1<<32 + 3, 1<<32 + 6, 1 << 62, math.MaxInt - 1000, math.MaxInt - 1, math.MaxInt,
}

// nearNumbers are those about the edges of the chapter.
var nearNumbers = []int{-17, -9, -8, -7, -6, -5, -4, -3, -2, -1, 0, 1, 2, 3, 4, 5, 6, 7, 8, 9, 10, 11, 12, 13, 14, 15, 16, 17, 18, 254, 255, 256, 257, 999, 1000, 1001, 1023, 1024}

var someNumbers = slices.Concat(farNumbers, nearNumbers)

func let(b int, l ...api.Make) api.Insn { return api.Insn{Op: api.ILet, B: b, Makes: l} }
func call(b, whom int, with ...int) api.Insn {
	return api.Insn{Op: api.ICall, A: whom, B: b, List: with}
}
func ret(b, what int) api.Insn { return api.Insn{Op: api.IRet, A: what, B: b} }
func choice(b, arms int, list, keep []int) api.Insn {
	return api.Insn{Op: api.ICase, A: arms, B: b, List: list, Keep: keep}
}
func arms(b int, l ...api.Arm) api.Insn { return api.Insn{Op: api.IArms, B: b, Arms: l} }
func primitive(b, which int, of ...int) api.Insn {
	return api.Insn{Op: api.IPrim, A: which, B: b, List: of}
}

func con(info int, from ...int) api.Make   { return api.Make{Kind: api.KCon, Info: info, From: from} }
func num(n int64) api.Make                 { return api.Make{Kind: api.KInt, N: n} }
func fun(info int, from ...int) api.Make   { return api.Make{Kind: api.KFun, Info: info, From: from} }
func thunk(info int, from ...int) api.Make { return api.Make{Kind: api.KThunk, Info: info, From: from} }
func pick(info int, field int64, from ...int) api.Make {
	return api.Make{Kind: api.KSel, Info: info, N: field, From: from}
}

func onCon(n, to int) api.Arm       { return api.Arm{Kind: api.ACon, Con: n, To: to} }
func onInt(n int64, to int) api.Arm { return api.Arm{Kind: api.AInt, N: n, To: to} }
func onAll(to int) api.Arm          { return api.Arm{Kind: api.AAll, To: to} }

// about is a code in which some instructions stand behind one that begins a global: two constructors (of 2 and 0
// fields), two globals (0 a thunk's, 1 a function's), and infos 2 and 3 of a function and a thunk that need 2 and 1.
func about(l ...api.Insn) api.Code {
	return api.Code{
		Cons:    []api.Con{{Name: "C", Arity: 2}, {Name: "D"}},
		Globals: []api.Global{{Name: "main"}, {Name: "f", Info: 1}},
		Infos:   []api.Info{{Kind: api.KThunk}, {Kind: api.KFun, Arity: 1, To: 1}, {Kind: api.KFun, Arity: 1, Free: 2, To: 2}, {Kind: api.KThunk, Free: 1, To: 1}},
		Insns:   append([]api.Insn{ret(0, -1), ret(1, 0), ret(3, 2)}, l...),
	}
}

// begin is the number of the first instruction that is handed to about.
const begin = 3

// The chapter's example.
func TestExample(t *testing.T) {
	c := api.Code{Infos: []api.Info{{Kind: api.KThunk}}, Insns: []api.Insn{let(0, num(5)), ret(1, 0)}}
	agree(t, c, fault{})
	c.Insns[1].A = 1
	agree(t, c, fault{1, api.ErrRange})
}

// Example 1 of chapter 13, as its scheme lays it.
func TestCodeOfACase(t *testing.T) {
	c := api.Code{
		Globals: []api.Global{{Name: "main"}},
		Infos:   []api.Info{{Kind: api.KFun, Arity: 1}},
		Insns:   []api.Insn{choice(1, 2, []int{0}, nil), call(1, 0), arms(1, onAll(3)), call(1, -1, 0)},
	}
	agree(t, c, fault{})
	if s := follow(c); s != "" {
		t.Error(s)
	}
}

func TestNothingIsRight(t *testing.T) {
	agree(t, api.Code{}, fault{})
	agree(t, api.Code{Cons: []api.Con{}, Globals: []api.Global{}, Infos: []api.Info{}, Insns: []api.Insn{}}, fault{})
	agree(t, about(), fault{})
	agree(t, api.Code{Cons: make([]api.Con, 3)}, fault{})
	agree(t, api.Code{Infos: make([]api.Info, 3)}, fault{0, api.ErrKind})
	agree(t, api.Code{Globals: make([]api.Global, 3)}, fault{0, api.ErrRange})
	agree(t, api.Code{Insns: make([]api.Insn, 3)}, fault{0, api.ErrKind})
}

// P12.1, constructors: their arities, at the number of the first that is wrong.
func TestConstructors(t *testing.T) {
	for _, n := range someNumbers {
		for at := range 4 {
			c := api.Code{Cons: []api.Con{{Name: "A"}, {Name: "A", Arity: 8}, {Arity: 1}, {Name: "\xff", Arity: 7}}}
			c.Cons[at].Arity = n
			w := fault{at, api.ErrArity}
			if n >= 0 && n <= 8 {
				w = fault{}
			}
			agree(t, c, w)
			if at < 3 && w.e != api.OK {
				c.Cons[3].Arity = 9
				agree(t, c, w)
			}
		}
	}
}

// P12.1, infos.

func TestKindsOfInfos(t *testing.T) {
	for _, kind := range someNumbers {
		for at := range 3 {
			c := api.Code{Infos: []api.Info{{Kind: api.KThunk}, {Kind: api.KThunk}, {Kind: api.KThunk}}, Insns: []api.Insn{let(0, num(1)), ret(1, 0)}}
			c.Infos[at].Kind = kind
			w := fault{at, api.ErrKind}
			if kind == api.KThunk {
				w = fault{}
			}
			if kind == api.KFun {
				w.e = api.ErrArity
			}
			agree(t, c, w)
			c.Infos[at] = api.Info{Kind: kind, Arity: 1, To: 1}
			w = fault{at, api.ErrKind}
			if kind == api.KFun {
				w = fault{}
			}
			if kind == api.KThunk {
				w.e = api.ErrArity
			}
			agree(t, c, w)
		}
	}
}

func TestAritiesOfInfos(t *testing.T) {
	for _, n := range someNumbers {
		b := max(0, min(n, 1000))
		c := api.Code{Infos: []api.Info{{Kind: api.KThunk, To: 1}, {Kind: api.KFun, Arity: n}}, Insns: []api.Insn{ret(b, 0), let(0, num(1)), ret(1, 0)}}
		w := fault{1, api.ErrArity}
		if n >= 1 && n <= 8 {
			w = fault{}
		}
		agree(t, c, w)
		c.Infos[1] = api.Info{Kind: api.KThunk, Arity: n, To: 1}
		w = fault{1, api.ErrArity}
		if n == 0 {
			w = fault{}
			c.Insns[0] = ret(1, 0)
		}
		agree(t, c, w)
	}
}

func TestWhatInfosNeed(t *testing.T) {
	for _, n := range someNumbers {
		for kind, arity := range map[int]int{api.KFun: 8, api.KThunk: 0} {
			b := max(1, min(n, 255)+arity)
			c := api.Code{Infos: []api.Info{{Kind: kind, Arity: arity, Free: n}}, Insns: []api.Insn{ret(b, b-1)}}
			w := fault{0, api.ErrArity}
			if n >= 0 && n <= 255 {
				w = fault{}
			}
			if n == 0 && kind == api.KThunk {
				c.Insns = []api.Insn{let(0, num(1)), ret(1, 0)}
			}
			agree(t, c, w)
		}
	}
	// A sum that would fit, of two that do not.
	c := api.Code{Infos: []api.Info{{Kind: api.KFun, Arity: math.MaxInt, Free: math.MinInt}}, Insns: []api.Insn{ret(-1, 0)}}
	agree(t, c, fault{0, api.ErrArity})
	c = api.Code{Infos: []api.Info{{Kind: api.KFun, Arity: 9, Free: -1}}, Insns: []api.Insn{ret(8, 0)}}
	agree(t, c, fault{0, api.ErrArity})
	c = api.Code{Infos: []api.Info{{Kind: api.KThunk, Arity: 1, Free: 1}}, Insns: []api.Insn{ret(2, 0)}}
	agree(t, c, fault{0, api.ErrArity})
}

func TestWhereInfosBegin(t *testing.T) {
	for _, to := range someNumbers {
		c := about()
		c.Infos[3].To = to
		w := fault{3, api.ErrRange}
		switch {
		case to == 1:
			w = fault{}
		case to >= 0 && to <= 2:
			w.e = api.ErrSize
		}
		agree(t, c, w)
	}
	c := api.Code{Infos: []api.Info{{Kind: api.KThunk}}}
	agree(t, c, fault{0, api.ErrRange})
}

// The locals that an info has, one less and one more; of the instruction nothing else is asked there.
func TestLocalsOfInfos(t *testing.T) {
	for _, b := range someNumbers {
		for _, op := range someNumbers {
			c := api.Code{Infos: []api.Info{{Kind: api.KFun, Arity: 3, Free: 4}}, Insns: []api.Insn{{Op: op, B: b}}}
			at, e := code.Check(c)
			if (b == 7) == (at == 0 && e == api.ErrSize) {
				t.Errorf("B %d, Op %d: %d, %d", b, op, at, int(e))
			}
		}
	}
}

// An info may begin with any instruction, also where another one does, and where ways go through.
func TestInfosBeginAnywhere(t *testing.T) {
	c := api.Code{
		Infos: []api.Info{{Kind: api.KThunk, Free: 1, To: 2}, {Kind: api.KFun, Arity: 1, To: 2}, {Kind: api.KThunk, Free: 1, To: 3}, {Kind: api.KFun, Arity: 1, Free: 0, To: 1}, {Kind: api.KThunk, Free: 1}},
		Insns: []api.Insn{choice(1, 2, []int{0}, nil), ret(1, 0), arms(1, onAll(0), onInt(1, 2)), ret(1, 0)},
	}
	agree(t, c, fault{})
	if s := follow(c); s != "" {
		t.Error(s)
	}
}

// P12.1, globals.
func TestGlobals(t *testing.T) {
	for _, n := range someNumbers {
		for at := range 2 {
			c := about()
			c.Globals[at] = api.Global{Info: n}
			w := fault{at, api.ErrRange}
			switch n {
			case 0, 1:
				w = fault{}
			case 2, 3:
				w.e = api.ErrKind
			}
			agree(t, c, w)
		}
	}
	c := api.Code{Globals: []api.Global{{Name: "main"}}}
	agree(t, c, fault{0, api.ErrRange})
}

// P12.1, instructions.

// bare is an instruction of each Op that is right at any B, if another of as many locals, and arms, stand where it goes.
func bare(op, b int) api.Insn {
	return map[int]api.Insn{
		api.ILet: let(b, num(1)), api.ICall: call(b, -1), api.IRet: ret(b, -1), api.ICase: choice(b, begin+2, nil, nil),
		api.IArms: arms(b, onAll(begin)), api.IPrim: primitive(b, 8, -1),
	}[op]
}

// bareCode has that instruction, and behind it what it goes on with.
func bareCode(op, b int) api.Code {
	next := ret(0, -1)
	if op == api.ILet {
		next.B = min(b, 1000) + 1
	}
	return about(bare(op, b), next, arms(1, onAll(begin+3)), ret(1, -1))
}

func TestOps(t *testing.T) {
	for _, op := range someNumbers {
		c := bareCode(api.IRet, 5)
		c.Insns[begin].Op = op
		w := fault{begin, api.ErrKind}
		switch op {
		case api.ILet, api.IArms:
			w.e = api.ErrArity // it has no Makes, no Arms
		case api.IPrim:
			w.e = api.ErrPrim
		case api.ICase:
			w.e = api.ErrRange
		case api.IRet, api.ICall:
			w = fault{}
		}
		agree(t, c, w)
	}
	for op := 1; op <= 6; op++ {
		agree(t, bareCode(op, 7), fault{})
	}
}

func TestLocalsOfInstructions(t *testing.T) {
	for op := 1; op <= 6; op++ {
		for _, b := range someNumbers {
			c := bareCode(op, b)
			w := fault{begin, api.ErrSize}
			switch {
			case b >= 1 && b <= 999, b == 0 && op != api.IArms, b == 1000 && op != api.ILet:
				w = fault{}
			case b == 1000: // with what it lays, its next has one too many
				w = fault{begin + 1, api.ErrSize}
			}
			agree(t, c, w)
		}
	}
}

// What an Op does not have may be whatever it is.
func TestWhatAnOpDoesNotHave(t *testing.T) {
	junk := api.Insn{A: math.MinInt, List: make([]int, 3000), Keep: []int{math.MaxInt, math.MinInt, 99, -99}, Makes: []api.Make{{Kind: 99}, con(-5, 77)}, Arms: []api.Arm{{Kind: -1, Con: 99, To: 99}}}
	for i := range junk.List {
		junk.List[i] = math.MaxInt - i
	}
	for op := 1; op <= 6; op++ {
		c := bareCode(op, 7)
		x := &c.Insns[begin]
		if op == api.ILet || op == api.IArms {
			x.A = junk.A
		}
		if op == api.ILet || op == api.IRet || op == api.IArms {
			x.List = junk.List
		}
		if op != api.ICase {
			x.Keep = junk.Keep
		}
		if op != api.ILet {
			x.Makes = junk.Makes
		}
		if op != api.IArms {
			x.Arms = junk.Arms
		}
		agree(t, c, fault{})
		if !code.Same(c, bareCode(op, 7)) {
			t.Errorf("Op %d: not the same", op)
		}
		x.Op = 0
		agree(t, c, fault{begin, api.ErrKind})
	}
}

// What the Kind of a Make, of an Arm does not have, neither.
func TestWhatAKindDoesNotHave(t *testing.T) {
	for _, n := range someNumbers {
		m := num(math.MinInt64)
		m.Info, m.From = n, []int{n, 1, n}
		agree(t, about(let(0, m), ret(1, 0)), fault{})
		for _, m := range []api.Make{con(0, 0, 0), con(1), fun(2, 0, 0), thunk(3, 0)} {
			m.N = int64(n)
			agree(t, about(let(0, m), ret(1, 0)), fault{})
		}
		for _, a := range []api.Arm{{Kind: api.ACon, Con: 1, N: int64(n), To: 1}, {Kind: api.AInt, N: int64(n), Con: n, To: 1}, {Kind: api.AAll, N: int64(n), Con: n, To: 1}} {
			agree(t, about(arms(1, a)), fault{})
		}
	}
}

func TestKindsOfMakesAndArms(t *testing.T) {
	for _, kind := range someNumbers {
		for at := range 3 {
			c := about(let(2, num(1), num(2), num(3)), ret(5, 4))
			m := &c.Insns[begin].Makes[at]
			*m = api.Make{Kind: kind, Info: -1, N: -1, From: []int{99, 98}}
			w := fault{begin, api.ErrKind}
			switch kind {
			case api.KInt:
				w = fault{}
			case api.KCon, api.KFun, api.KThunk:
				w.e = api.ErrCon
			case api.KSel:
				w.e = api.ErrArity
			}
			agree(t, c, w)

			c = about(arms(1, onAll(1), onInt(4, 1), onInt(5, 1)))
			c.Insns[begin].Arms[at].Kind, c.Insns[begin].Arms[at].Con = kind, 2
			w = fault{begin, api.ErrKind}
			switch kind {
			case api.ACon:
				w.e = api.ErrCon
			case api.AInt, api.AAll:
				w = fault{}
			}
			agree(t, c, w)
		}
	}
}

// repeated is a place so many times.
func repeated(place, many int) []int { return slices.Repeat([]int{place}, many) }

func TestHowManyOfCallsAndPrimitives(t *testing.T) {
	for _, many := range []int{0, 1, 2, 3, 4, 7, 8, 9, 10, 255, 256, 4096} {
		c := about(call(1, 0, repeated(-1, many)...))
		if many <= 8 {
			agree(t, c, fault{})
		} else {
			agree(t, c, fault{begin, api.ErrArity})
		}
		for which := 1; which <= 16; which++ {
			c := about(primitive(1, which, repeated(0, many)...))
			if many == primArgs[which] {
				agree(t, c, fault{})
			} else {
				agree(t, c, fault{begin, api.ErrArity})
			}
		}
		// Of what is no primitive nobody can say how many there are.
		for _, which := range []int{math.MinInt, -1, 0, 17, 1<<32 + 1, math.MaxInt} {
			agree(t, about(primitive(1, which, repeated(0, many)...)), fault{begin, api.ErrPrim})
			agree(t, about(primitive(1, which, repeated(99, many)...)), fault{begin, api.ErrPrim})
		}
	}
}

func TestPrimitives(t *testing.T) {
	for _, which := range someNumbers {
		w := fault{begin, api.ErrPrim}
		if which >= 1 && which <= 16 {
			w.e = api.ErrArity
		}
		agree(t, about(primitive(0, which, repeated(-1, 4)...)), w)
	}
}

func TestHowManyOfMakes(t *testing.T) {
	agree(t, about(let(2), ret(2, 0)), fault{begin, api.ErrArity})
	agree(t, about(arms(2), ret(2, 0)), fault{begin, api.ErrArity})
	agree(t, about(let(0), ret(9, 99)), fault{begin, api.ErrArity})
	for many := range 12 {
		for i, m := range []api.Make{con(0), con(1), fun(1), fun(2), thunk(0), thunk(3), pick(0, 0), pick(0, 1)} {
			m.From = repeated(0, many)
			w := fault{begin, api.ErrArity}
			if many == []int{2, 0, 0, 2, 0, 1, 1, 1}[i] {
				w = fault{}
			}
			agree(t, about(let(1, m), ret(2, 1)), w)
			agree(t, about(let(1, num(1), m), ret(3, 2)), w)
		}
		// Of what is no constructor, no info of that Kind nobody can say how many there are; of a KSel it is always one.
		for _, m := range []api.Make{con(2), con(-1), fun(4), fun(-1), fun(0), fun(3), thunk(1), thunk(2), thunk(4)} {
			m.From = repeated(0, many)
			agree(t, about(let(1, m), ret(2, 1)), fault{begin, api.ErrCon})
		}
		for _, m := range []api.Make{pick(2, 0), pick(-1, 0), pick(1, 0), pick(0, 2), pick(0, -1)} {
			m.From = repeated(0, many)
			w := fault{begin, api.ErrArity}
			if many == 1 {
				w.e = api.ErrCon
			}
			agree(t, about(let(1, m), ret(2, 1)), w)
		}
	}
}

func TestNumbersOfConstructorsAndInfos(t *testing.T) {
	for _, n := range someNumbers {
		for i, m := range []api.Make{con(n, 0, 0), con(n), fun(n), fun(n, 0, 0), thunk(n), thunk(n, 0), pick(n, 1, 0)} {
			w := fault{begin, api.ErrCon}
			if n == []int{0, 1, 1, 2, 0, 3, 0}[i] {
				w = fault{}
			} else if i < 6 && n == []int{1, 0, 2, 1, 3, 0}[i] { // the other one of that kind
				w.e = api.ErrArity
			}
			agree(t, about(let(1, m), ret(2, 1)), w)
		}
		m := pick(0, int64(n), 0)
		w := fault{begin, api.ErrCon}
		if n == 0 || n == 1 {
			w = fault{}
		}
		agree(t, about(let(1, m), ret(2, 1)), w)
		m.Info = 1 // it has no field
		agree(t, about(let(1, m), ret(2, 1)), fault{begin, api.ErrCon})

		w = fault{begin, api.ErrCon}
		if n == 0 || n == 1 {
			w = fault{}
		}
		agree(t, about(arms(1, onCon(n, 2-n&1)), ret(1, 0)), w)
	}
}

// spots is an instruction for each place that one may have; with is put there.
func spots(b, with int) map[string]api.Code {
	return map[string]api.Code{
		"whom":             about(call(b, with, -1)),
		"with what, first": about(call(b, -1, with, -1, -1)),
		"with what, last":  about(call(b, -1, -1, -1, with)),
		"a value":          about(ret(b, with)),
		"taken along":      about(choice(b, begin+2, []int{-1, -1, with}, []int{-1}), ret(3, 0), arms(2, onAll(begin+3)), ret(2, 0)),
		"kept":             about(choice(b, begin+2, []int{-1}, []int{-1, with}), ret(1, 0), arms(3, onAll(begin+3)), ret(3, 0)),
		"of what":          about(primitive(b, 15, -1, -1, with)),
		"of what, first":   about(primitive(b, 15, with, -1, -1)),
	}
}

func TestPlaces(t *testing.T) {
	for _, b := range []int{0, 1, 2, 999, 1000} {
		for _, p := range append(someNumbers, b-1, b, b+1) {
			w := fault{begin, api.ErrRange}
			if p >= -2 && p < b {
				w = fault{}
			}
			for what, c := range spots(b, p) {
				if m := model(c); m != w {
					t.Errorf("%s: the model says %v, not %v", what, m, w)
				}
				if at, e := code.Check(c); at != w.at || e != w.e {
					t.Errorf("%s, B %d, place %d: %d, %d; want %v", what, b, p, at, int(e), w)
				}
			}
		}
	}
}

// Without globals only locals are places.
func TestPlacesWithoutGlobals(t *testing.T) {
	for p := -3; p <= 4; p++ {
		c := about(ret(3, p))
		c.Globals, c.Insns[0] = nil, let(0, num(1))
		w := fault{begin, api.ErrRange}
		if p >= 0 && p < 3 {
			w = fault{}
		}
		agree(t, c, w)
	}
}

// Of a group each may hold those ahead of it, itself and those behind it.
func TestPlacesOfAGroup(t *testing.T) {
	for _, b := range []int{0, 1, 2, 900} {
		for at := range 3 {
			for _, p := range append(someNumbers, b-1, b, b+1, b+2, b+3, b+4) {
				w := fault{begin, api.ErrRange}
				if p >= -2 && p < b+3 {
					w = fault{}
				}
				for _, m := range []api.Make{con(0, -1, p), con(0, p, -2), fun(2, p, -1), thunk(3, p), pick(0, 0, p)} {
					c := about(let(b, num(1), con(1), thunk(0)), ret(b+3, b+2))
					c.Insns[begin].Makes[at] = m
					agree(t, c, w)
				}
			}
		}
	}
}

func TestNext(t *testing.T) {
	// There is none.
	agree(t, about(let(1, num(1))), fault{begin, api.ErrRange})
	agree(t, about(arms(1, onAll(1)), choice(1, begin, nil, nil)), fault{begin + 1, api.ErrRange})
	// It has other locals.
	for _, b := range append(someNumbers, 41, 42, 43, 44) {
		w := fault{begin, api.ErrSize}
		if b == 42 {
			w = fault{}
		}
		agree(t, about(let(39, num(1), con(1), num(3)), ret(b, -1)), w)
		agree(t, about(choice(39, begin+2, repeated(38, 42), nil), ret(b, -1), arms(1, onAll(1))), w)
	}
	// Of an ICall, an IRet, an IPrim and an IArms nothing is next.
	for _, x := range []api.Insn{call(1, 0), ret(1, 0), primitive(1, 8, 0), arms(1, onAll(1))} {
		agree(t, about(x), fault{})
		agree(t, about(x, ret(77, 76)), fault{})
	}
}

func TestArmsOfACase(t *testing.T) {
	for _, a := range someNumbers {
		c := about(choice(2, a, []int{0}, []int{1, -1}), ret(1, 0), arms(3, onAll(2)), arms(2, onAll(begin+5)), arms(4, onAll(begin+6)), ret(2, 0), ret(4, 0))
		w := fault{begin, api.ErrRange}
		switch {
		case a == begin+2:
			w = fault{}
		case a == begin+3, a == begin+4:
			w.e = api.ErrSize
		case a >= 0 && a < begin+7:
			w.e = api.ErrKind
		}
		agree(t, c, w)
	}
	for _, b := range append(someNumbers, 20, 21, 22) {
		c := about(choice(1, begin+2, nil, repeated(0, 20)), ret(0, -1), arms(b, onAll(begin+3)), ret(max(1, b), -1))
		w := fault{begin, api.ErrSize}
		if b == 21 {
			w = fault{}
		}
		agree(t, c, w)
	}
	// Arms may be shared, stand ahead, and be arms of themselves.
	c := about(arms(1, onInt(1, 1), onAll(begin)), choice(0, begin, []int{-1}, nil), choice(1, begin, nil, nil), call(0, -1))
	agree(t, c, fault{})
	if s := follow(c); s != "" {
		t.Error(s)
	}
}

func TestWhereArmsGo(t *testing.T) {
	for _, to := range someNumbers {
		for at := range 3 {
			for i, a := range []api.Arm{onCon(0, to), onCon(1, to), onInt(5, to), onAll(to)} {
				c := about(arms(2, onAll(begin+2), onAll(begin+2), onAll(begin+2)), ret(1, 0), ret(2, 0), ret(3, 0), ret(4, 0), ret(5, 0))
				c.Insns[begin].Arms[at] = a
				w := fault{begin, api.ErrRange}
				switch {
				case i == 0 && to == begin+4, i != 0 && (to == begin || to == begin+2):
					w = fault{}
				case to >= 0 && to < begin+6:
					w.e = api.ErrSize
				}
				agree(t, c, w)
			}
		}
	}
}

// Arms of a constructor with each number of fields, and with as many locals as there may be.
func TestArmsFields(t *testing.T) {
	for fields := range 9 {
		for _, b := range []int{1, 2, 991, 992, 993, 999, 1000} {
			for more := range 10 {
				c := about(arms(b, onInt(1, begin+1), onCon(2, begin+2)), ret(b, 0), ret(b+more, 0))
				c.Cons = append(c.Cons, api.Con{Arity: fields})
				switch {
				case more != fields:
					agree(t, c, fault{begin, api.ErrSize})
				case b+more > 1000:
					agree(t, c, fault{begin + 2, api.ErrSize})
				default:
					agree(t, c, fault{})
				}
			}
		}
	}
}

// Names are names, whatever they are, and however often.
func TestNamesAreNotAsked(t *testing.T) {
	for _, name := range []string{"", "main", "let", "\xff", "C C", "#add", "7"} {
		c := about()
		c.Cons[0].Name, c.Cons[1].Name, c.Globals[0].Name, c.Globals[1].Name = name, name, name, name
		agree(t, c, fault{})
	}
}
