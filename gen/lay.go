package gen

import (
	"slices"

	"midden/api"
	"midden/prim"
	"midden/vars"
)

// coder lays instructions one behind the other. How many locals there are is handed on from expression to expression.
type coder struct {
	code    api.Code
	cons    map[string]int
	globals map[string]int
	locals  names    // where they stand in what is being laid
	waiting []func() // lay the forms that have an info, but no instructions yet
	big     bool
}

func newCoder(p api.Program) *coder {
	c := &coder{cons: map[string]int{}, globals: map[string]int{}, locals: names{}}
	for i, d := range p.Datas {
		c.cons[d.Name] = i
		c.code.Cons = append(c.code.Cons, api.Con{Name: d.Name, Arity: d.Arity})
	}
	for i, b := range p.Binds {
		c.globals[b.Name] = i
		c.code.Globals = append(c.code.Globals, api.Global{Name: b.Name, Info: i})
	}
	return c
}

// program lays all forms; it tells whether no instruction has more locals than it may.
func (c *coder) program(binds []api.Bind, parts []part) bool {
	for i, b := range binds {
		c.meet(b.Form, parts[i])
	}
	for len(c.waiting) > 0 && !c.big {
		lay := c.waiting[0]
		c.waiting = c.waiting[1:]
		lay()
	}
	return !c.big
}

// meet tells the number of a form's info. The form is laid behind all that wait.
func (c *coder) meet(f api.Form, p part) int {
	n := len(c.code.Infos)
	kind := api.KThunk
	if len(f.Args) > 0 {
		kind = api.KFun
	}
	c.code.Infos = append(c.code.Infos, api.Info{Kind: kind, Arity: len(f.Args), Free: len(p.needs)})
	c.waiting = append(c.waiting, func() {
		c.code.Infos[n].To = len(c.code.Insns)
		all := slices.Concat(f.Args, p.needs)
		c.standing(all, 0, func() { c.exp(f.Body, p, len(all)) })
	})
	return n
}

// standing lays something where names stand one behind the other, from a local on. Those that stand for other locals
// may stay: what is laid does not name them.
func (c *coder) standing(list []string, first int, lay func()) {
	c.locals.inside(list, func(i int) int { return first + i }, lay)
}

func (c *coder) place(name string) int {
	if place, local := c.locals[name]; local {
		return place
	}
	return -1 - c.globals[name]
}

func (c *coder) places(list []string) []int {
	var all []int
	for _, name := range list {
		all = append(all, c.place(name))
	}
	return all
}

// placing tells where atoms stand. Numbers stand one behind the other, from a local on, as they are asked for.
func (c *coder) placing(next int) func(list []api.Atom) []int {
	return func(list []api.Atom) []int {
		var all []int
		for _, a := range list {
			if a.Name != "" {
				all = append(all, c.place(a.Name))
				continue
			}
			all = append(all, next)
			next++
		}
		return all
	}
}

// numbers tells the closures of those that are among atoms.
func numbers(list []api.Atom) []api.Make {
	var all []api.Make
	for _, a := range list {
		if a.Name == "" {
			all = append(all, api.Make{Kind: api.KInt, N: a.N})
		}
	}
	return all
}

// emit lays one instruction, and tells its number.
func (c *coder) emit(x api.Insn) int {
	c.big = c.big || x.B > api.MaxLocals
	c.code.Insns = append(c.code.Insns, x)
	return len(c.code.Insns) - 1
}

// group lays closures, if there are any, and tells how many locals there are then.
func (c *coder) group(makes []api.Make, many int) int {
	if len(makes) > 0 {
		c.emit(api.Insn{Op: api.ILet, B: many, Makes: makes})
	}
	return many + len(makes)
}

func (c *coder) exp(x api.Exp, p part, many int) {
	switch x.Kind {
	case api.XInt:
		c.value([]api.Make{{Kind: api.KInt, N: x.N}}, many)
	case api.XCon:
		c.value(append(numbers(x.Atoms), c.con(x, c.placing(many))), many)
	case api.XApp:
		c.last(api.Insn{Op: api.ICall, A: c.place(x.Name)}, x.Atoms, many)
	case api.XPrim:
		c.last(api.Insn{Op: api.IPrim, A: prim.Find(x.Name)}, x.Atoms, many)
	case api.XLet:
		c.let(x, p, many)
	case api.XCase:
		c.choice(x, p, many)
	}
}

// value lays closures, and tells the last one.
func (c *coder) value(makes []api.Make, many int) {
	many = c.group(makes, many)
	c.emit(api.Insn{Op: api.IRet, A: many - 1, B: many})
}

// last lays an instruction of atoms, with which the code ends.
func (c *coder) last(x api.Insn, atoms []api.Atom, many int) {
	x.List = c.placing(many)(atoms)
	x.B = c.group(numbers(atoms), many)
	c.emit(x)
}

func (c *coder) con(x api.Exp, placing func([]api.Atom) []int) api.Make {
	return api.Make{Kind: api.KCon, Info: c.cons[x.Name], From: placing(x.Atoms)}
}

func (c *coder) let(x api.Exp, p part, many int) {
	var makes []api.Make
	for _, b := range x.Binds {
		if vars.Class(b.Form) == api.KCon {
			makes = append(makes, numbers(b.Form.Body.Atoms)...)
		}
	}
	c.standing(namesOf(x.Binds), many+len(makes), func() {
		placing := c.placing(many)
		for i, b := range x.Binds {
			makes = append(makes, c.closure(b.Form, p.kids[i], placing))
		}
		c.exp(x.Kids[0], p.kids[len(x.Binds)], c.group(makes, many))
	})
}

// closure tells what is laid for a let's form.
func (c *coder) closure(f api.Form, p part, placing func([]api.Atom) []int) api.Make {
	class := vars.Class(f)
	switch class {
	case api.KCon:
		return c.con(f.Body, placing)
	case api.KInt:
		return api.Make{Kind: class, N: f.Body.N}
	case api.KSel:
		con, field, of, _ := vars.Field(f)
		return api.Make{Kind: class, Info: c.cons[con], N: int64(field), From: []int{c.place(of)}}
	}
	return api.Make{Kind: class, Info: c.meet(f, p), From: c.places(p.needs)}
}

func (c *coder) choice(x api.Exp, p part, many int) {
	asked := p.kids[0]
	at := c.emit(api.Insn{Op: api.ICase, B: many, List: c.places(asked.needs), Keep: c.places(p.keep)})
	c.standing(asked.needs, 0, func() { c.exp(x.Kids[0], asked, len(asked.needs)) })
	c.code.Insns[at].A = len(c.code.Insns)
	c.standing(p.keep, 0, func() { c.arms(x.Alts, p.kids[1:], len(p.keep)) })
}

// arms lays alternatives. The value stands at a local, behind what was kept.
func (c *coder) arms(alts []api.Alt, bodies []part, value int) {
	arms := make([]api.Arm, len(alts))
	c.emit(api.Insn{Op: api.IArms, B: value + 1, Arms: arms})
	for i, a := range alts {
		arms[i] = api.Arm{Kind: a.Kind, To: len(c.code.Insns)}
		first, many := value, value+1
		switch a.Kind {
		case api.ACon:
			arms[i].Con = c.cons[a.Name]
			first, many = many, many+len(a.Vars)
		case api.AInt:
			arms[i].N = a.N
		}
		c.standing(boundBy(a), first, func() { c.exp(a.Body, bodies[i], many) })
	}
}
