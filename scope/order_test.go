package scope_test

import (
	"testing"

	"midden/api"
)

// orderly is a right program in which all kinds of things stand, each at a place of its own.
func orderly() api.Program {
	return api.Program{
		Datas: []api.Data{data(1, "C", 2), data(2, "D", 0), data(3, "E", 8)},
		Binds: []api.Bind{
			bind(10, "f", choice(11, app(12, "a", named("b")),
				onCon(13, "C", app(14, "x", named("y"), atom(1)), "x", "y"),
				onCon(15, "D", num(16, 1)),
				onInt(17, 1, con(18, "C", named("a"), atom(3))),
				onInt(19, 2, num(20, 2)),
				onAll(21, "z", prim(22, "#add", named("z"), named("b"))),
			), "a", "b"),
			bind(30, "main", let(31, app(36, "f", named("g"), named("k")),
				bind(32, "g", app(33, "g", named("h")), "h"),
				bind(34, "k", num(35, 1)),
			)),
			bind(40, "last", choice(41, num(42, 1), onInt(43, 5, num(44, 1)))),
		},
	}
}

// A spoiling makes one fault.
type spoiling struct {
	do func(p *api.Program)
	fault
}

func fBody(p *api.Program) *api.Exp       { return &p.Binds[0].Form.Body }
func fAlt(p *api.Program, i int) *api.Alt { return &fBody(p).Alts[i] }
func mainLet(p *api.Program) *api.Exp     { return &p.Binds[1].Form.Body }
func lastCase(p *api.Program) *api.Exp    { return &p.Binds[2].Form.Body }

func tooMany(x *api.Exp) {
	for range 9 {
		x.Atoms = append(x.Atoms, atom(1))
	}
}

func badAtom(x *api.Exp) { x.Atoms[len(x.Atoms)-1] = named("no") }

func moreArgs(f *api.Form) {
	for _, name := range []string{"s1", "s2", "s3", "s4", "s5", "s6", "s7", "s8", "s9"} {
		f.Args = append(f.Args, name)
	}
}

// All faults that the program may be given, in the chapter's order.
var spoilings = []spoiling{
	{func(p *api.Program) { p.Datas[0].Arity = 9 }, fault{1, api.ErrArity}},
	{func(p *api.Program) { p.Datas[1].Name = "C" }, fault{2, api.ErrTwice}},
	{func(p *api.Program) { p.Datas[1].Arity = -1 }, fault{2, api.ErrArity}},
	{func(p *api.Program) { p.Datas[2].Name = "D" }, fault{3, api.ErrTwice}},
	{func(p *api.Program) { p.Datas[2].Arity = 9 }, fault{3, api.ErrArity}},

	{func(p *api.Program) { p.Binds[0].Name = "" }, fault{10, api.ErrName}},
	{func(p *api.Program) { p.Binds[1].Name = "" }, fault{30, api.ErrName}},
	{func(p *api.Program) { p.Binds[1].Name = p.Binds[0].Name }, fault{30, api.ErrTwice}},
	{func(p *api.Program) { p.Binds[2].Name = "" }, fault{40, api.ErrName}},
	{func(p *api.Program) { p.Binds[2].Name = p.Binds[0].Name }, fault{40, api.ErrTwice}},

	{func(p *api.Program) { moreArgs(&p.Binds[0].Form) }, fault{10, api.ErrArity}},
	{func(p *api.Program) { p.Binds[0].Form.Args = append(p.Binds[0].Form.Args, "") }, fault{10, api.ErrName}},
	{func(p *api.Program) { p.Binds[0].Form.Args = append(p.Binds[0].Form.Args, "b") }, fault{10, api.ErrTwice}},
	{func(p *api.Program) { fBody(p).Kind = 0 }, fault{11, api.ErrArg}},
	{func(p *api.Program) { fBody(p).Kids = nil }, fault{11, api.ErrArg}},
	{func(p *api.Program) { fBody(p).Kids[0].Name = "no" }, fault{12, api.ErrName}},
	{func(p *api.Program) { tooMany(&fBody(p).Kids[0]) }, fault{12, api.ErrArity}},
	{func(p *api.Program) { badAtom(&fBody(p).Kids[0]) }, fault{12, api.ErrName}},

	{func(p *api.Program) { fAlt(p, 0).Kind = 4 }, fault{13, api.ErrArg}},
	{func(p *api.Program) { fAlt(p, 0).Name = "No" }, fault{13, api.ErrCon}},
	{func(p *api.Program) { fAlt(p, 0).Vars = append(fAlt(p, 0).Vars, fAlt(p, 0).Vars...) }, fault{13, api.ErrArity}},
	{func(p *api.Program) { fAlt(p, 0).Vars[1] = "" }, fault{13, api.ErrName}},
	{func(p *api.Program) { fAlt(p, 0).Vars = []string{"x", "x"} }, fault{13, api.ErrTwice}},
	{func(p *api.Program) { fAlt(p, 0).Body.Kind = 9 }, fault{14, api.ErrArg}},
	{func(p *api.Program) { fAlt(p, 0).Body.Name = "no" }, fault{14, api.ErrName}},
	{func(p *api.Program) { tooMany(&fAlt(p, 0).Body) }, fault{14, api.ErrArity}},
	{func(p *api.Program) { badAtom(&fAlt(p, 0).Body) }, fault{14, api.ErrName}},

	{func(p *api.Program) { fAlt(p, 1).Name = "No" }, fault{15, api.ErrCon}},
	{func(p *api.Program) { fAlt(p, 1).Vars = append(fAlt(p, 1).Vars, "", "", "", "") }, fault{15, api.ErrArity}},
	{func(p *api.Program) { fAlt(p, 1).Name, fAlt(p, 1).Vars = "C", []string{"x", "y"} }, fault{15, api.ErrTwice}},
	{func(p *api.Program) { fAlt(p, 1).Body.Kind = -1 }, fault{16, api.ErrArg}},

	{func(p *api.Program) { fAlt(p, 2).Body.Name = "No" }, fault{18, api.ErrCon}},
	{func(p *api.Program) { tooMany(&fAlt(p, 2).Body) }, fault{18, api.ErrArity}},
	{func(p *api.Program) { badAtom(&fAlt(p, 2).Body) }, fault{18, api.ErrName}},
	{func(p *api.Program) { fAlt(p, 3).N = 1 }, fault{19, api.ErrTwice}},
	{func(p *api.Program) { fAlt(p, 3).Body.Kind = 7 }, fault{20, api.ErrArg}},

	{func(p *api.Program) { fAlt(p, 4).Name = "" }, fault{21, api.ErrName}},
	{func(p *api.Program) { fAlt(p, 4).Body.Name = "#no" }, fault{22, api.ErrPrim}},
	{func(p *api.Program) { tooMany(&fAlt(p, 4).Body) }, fault{22, api.ErrArity}},
	{func(p *api.Program) { badAtom(&fAlt(p, 4).Body) }, fault{22, api.ErrName}},
	{func(p *api.Program) { fBody(p).Alts = append(fBody(p).Alts, onCon(23, "No", app(24, "no"), "")) }, fault{23, api.ErrLast}},

	{func(p *api.Program) { moreArgs(&p.Binds[1].Form) }, fault{30, api.ErrArity}},
	{func(p *api.Program) { p.Binds[1].Form.Args = append(p.Binds[1].Form.Args, "") }, fault{30, api.ErrName}},
	{func(p *api.Program) { p.Binds[1].Form.Args = append(p.Binds[1].Form.Args, "q", "q") }, fault{30, api.ErrTwice}},
	{func(p *api.Program) { mainLet(p).Kids = nil }, fault{31, api.ErrArg}},
	{func(p *api.Program) { mainLet(p).Binds[0].Name = "" }, fault{32, api.ErrName}},
	{func(p *api.Program) { mainLet(p).Binds[1].Name = "" }, fault{34, api.ErrName}},
	{func(p *api.Program) { mainLet(p).Binds[1].Name = mainLet(p).Binds[0].Name }, fault{34, api.ErrTwice}},
	{func(p *api.Program) { moreArgs(&mainLet(p).Binds[0].Form) }, fault{32, api.ErrArity}},
	{func(p *api.Program) { mainLet(p).Binds[0].Form.Args = append(mainLet(p).Binds[0].Form.Args, "") }, fault{32, api.ErrName}},
	{func(p *api.Program) { mainLet(p).Binds[0].Form.Args = append(mainLet(p).Binds[0].Form.Args, "h") }, fault{32, api.ErrTwice}},
	{func(p *api.Program) { mainLet(p).Binds[0].Form.Body.Name = "a" }, fault{33, api.ErrName}},
	{func(p *api.Program) { moreArgs(&mainLet(p).Binds[1].Form) }, fault{34, api.ErrArity}},
	{func(p *api.Program) { mainLet(p).Binds[1].Form.Body.Kind = 0 }, fault{35, api.ErrArg}},
	{func(p *api.Program) { mainLet(p).Kids[0].Name = "h" }, fault{36, api.ErrName}},
	{func(p *api.Program) { badAtom(&mainLet(p).Kids[0]) }, fault{36, api.ErrName}},

	{func(p *api.Program) { lastCase(p).Alts = nil }, fault{41, api.ErrArg}},
	{func(p *api.Program) { lastCase(p).Kids[0] = app(42, "k") }, fault{42, api.ErrName}},
	{func(p *api.Program) { lastCase(p).Alts = append(lastCase(p).Alts, onInt(45, 5, num(46, 1))) }, fault{45, api.ErrTwice}},

	{func(p *api.Program) { p.Binds[1].Name = "man" }, fault{0, api.ErrMain}},
}

// Each fault alone is told, and of each two that the program has, the one that the chapter names first. The one behind
// is made first, so that the other one can't be undone by it.
func TestOfTwoFaultsTheFirst(t *testing.T) {
	agree(t, orderly(), fault{})
	for i, first := range spoilings {
		p := orderly()
		first.do(&p)
		agree(t, p, first.fault)
		for _, second := range spoilings[i+1:] {
			p := orderly()
			second.do(&p)
			first.do(&p)
			agree(t, p, first.fault)
		}
	}
}
