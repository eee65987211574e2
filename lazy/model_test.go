package lazy_test

import (
	"maps"
	"slices"

	"midden/api"
	"midden/prim"
	"midden/scope"
	"midden/vars"
)

// model is the chapter word by word: things are numbered in one list, where names stand is a map of its own for each
// scope, and all is evaluated by Go's own calls, which an error or want of fuel leaves by panic.
type model struct {
	p       api.Program
	things  []cell
	globals map[string]int
	handles map[int]int
	last    int
	out     []int64
	steps   int
	until   int // how many steps may be counted in all
	shown   int
	dead    bool
}

// cell is a thing of the model.
type cell struct {
	is    string
	n     int64
	con   string
	form  api.Form
	where map[string]int
	of    int
	with  []int
	wrong api.Errno
}

type starved struct{}

func newModel(p api.Program) (*model, int, api.Errno) {
	if at, e := scope.Check(p); e != api.OK {
		return nil, at, e
	}
	m := &model{p: p, globals: map[string]int{}, handles: map[int]int{}}
	for i, b := range p.Binds {
		m.globals[b.Name] = i
	}
	for _, b := range p.Binds {
		is := "need"
		if len(b.Form.Args) > 0 {
			is = "function"
		}
		m.thing(cell{is: is, form: b.Form, where: m.globals})
	}
	return m, 0, api.OK
}

func (m *model) thing(c cell) int {
	m.things = append(m.things, c)
	return len(m.things) - 1
}

func (m *model) number(n int64) int { return m.thing(cell{is: "number", n: n}) }

func (m *model) Make(name string, with []int64) (int, api.Errno) {
	if m.dead {
		return 0, api.ErrDead
	}
	t, ok := m.globals[name]
	if !ok {
		return 0, api.ErrName
	}
	if len(with) > 8 {
		return 0, api.ErrArity
	}
	if len(with) > 0 {
		var l []int
		for _, n := range with {
			l = append(l, m.number(n))
		}
		t = m.thing(cell{is: "call", of: t, with: l})
	}
	m.last++
	m.handles[m.last] = t
	return m.last, api.OK
}

func (m *model) Drop(h int) api.Errno {
	if m.dead {
		return api.ErrDead
	}
	if _, ok := m.handles[h]; !ok {
		return api.ErrStale
	}
	delete(m.handles, h)
	return api.OK
}

func (m *model) Out() []int64 { return slices.Clone(m.out) }

func (m *model) Steps() int { return m.steps }

func (m *model) Show(h, depth, fuel int) (o api.Outcome, e api.Errno) {
	if m.dead {
		return o, api.ErrDead
	}
	t, ok := m.handles[h]
	if !ok {
		return o, api.ErrStale
	}
	if depth < 0 || depth > 8 || fuel < 0 || fuel > 1<<20 {
		return o, api.ErrArg
	}
	defer func() {
		switch x := recover().(type) {
		case nil:
		case starved:
			m.dead = true
			o = api.Outcome{Kind: api.OFuel}
		case api.Errno:
			o = m.failed(x)
		default:
			panic(x)
		}
	}()
	m.shown, m.until = 0, m.steps+fuel
	return api.Outcome{Kind: api.OValue, Tree: m.show(t, depth)}, api.OK
}

func (m *model) failed(e api.Errno) api.Outcome {
	for i := range m.things {
		if m.things[i].is == "work" {
			m.things[i] = cell{is: "failed", wrong: e}
		}
	}
	if e == api.ErrLoop {
		return api.Outcome{Kind: api.OLoop}
	}
	return api.Outcome{Kind: api.OError, Err: e}
}

func (m *model) show(t, depth int) api.Tree {
	if depth == 0 || m.shown == 200 {
		return api.Tree{Kind: api.SCut}
	}
	m.shown++
	c := m.things[m.know(t)]
	tree := api.Tree{Kind: map[string]int{"number": api.SInt, "function": api.SFun, "part": api.SFun, "con": api.SCon, "variable": api.SRef, "array": api.SArr}[c.is]}
	switch c.is {
	case "number":
		tree.N = c.n
	case "con":
		tree.Name = c.con
	}
	if c.is != "part" {
		for _, kid := range slices.Clone(c.with) {
			tree.Kids = append(tree.Kids, m.show(kid, depth-1))
		}
	}
	return tree
}

// know tells the number of the value.
func (m *model) know(t int) int {
	c := m.things[t]
	switch c.is {
	case "same":
		return m.know(c.of)
	case "failed":
		panic(c.wrong)
	case "work":
		panic(api.ErrLoop)
	case "need":
		m.things[t] = cell{is: "work"}
		m.things[t] = cell{is: "same", of: m.eval(c.form.Body, c.where)}
		return m.know(t)
	case "call":
		m.things[t] = cell{is: "work"}
		m.things[t] = cell{is: "same", of: m.call(c.of, c.with)}
		return m.know(t)
	}
	return t
}

func (m *model) call(t int, with []int) int {
	v := m.know(t)
	c := m.things[v]
	switch c.is {
	case "part":
		return m.call(c.of, slices.Concat(c.with, with))
	case "function":
		args := c.form.Args
		if len(args) > len(with) {
			return m.thing(cell{is: "part", of: v, with: with})
		}
		told := m.eval(c.form.Body, inner(c.where, args, with[:len(args)]))
		if len(args) == len(with) {
			return told
		}
		return m.call(told, with[len(args):])
	}
	panic(api.ErrApply)
}

// inner is where names stand, and some more.
func inner(where map[string]int, names []string, things []int) map[string]int {
	where = maps.Clone(where)
	for i, name := range names {
		where[name] = things[i]
	}
	return where
}

func (m *model) atom(a api.Atom, where map[string]int) int {
	if a.Name == "" {
		return m.number(a.N)
	}
	return where[a.Name]
}

func (m *model) atoms(l []api.Atom, where map[string]int) []int {
	var all []int
	for _, a := range l {
		all = append(all, m.atom(a, where))
	}
	return all
}

func (m *model) eval(x api.Exp, where map[string]int) int {
	if m.steps == m.until {
		panic(starved{})
	}
	m.steps++
	switch x.Kind {
	case api.XInt:
		return m.number(x.N)
	case api.XCon:
		return m.thing(cell{is: "con", con: x.Name, with: m.atoms(x.Atoms, where)})
	case api.XApp:
		if len(x.Atoms) == 0 {
			return m.know(where[x.Name])
		}
		return m.call(where[x.Name], m.atoms(x.Atoms, where))
	case api.XLet:
		return m.let(x, where)
	case api.XCase:
		return m.choice(x, where)
	}
	return m.prim(x, where)
}

func (m *model) let(x api.Exp, where map[string]int) int {
	var names []string
	var things []int
	for _, b := range x.Binds {
		names, things = append(names, b.Name), append(things, m.thing(cell{}))
	}
	where = inner(where, names, things)
	for i, b := range x.Binds {
		c := cell{is: "need", form: b.Form, where: where}
		switch vars.Class(b.Form) {
		case api.KFun:
			c.is = "function"
		case api.KCon:
			c = cell{is: "con", con: b.Form.Body.Name, with: m.atoms(b.Form.Body.Atoms, where)}
		case api.KInt:
			c = cell{is: "number", n: b.Form.Body.N}
		}
		m.things[things[i]] = c
	}
	return m.eval(x.Kids[0], where)
}

func (m *model) choice(x api.Exp, where map[string]int) int {
	v := m.eval(x.Kids[0], where)
	c := m.things[v]
	for _, a := range x.Alts {
		switch {
		case a.Kind == api.ACon && c.is == "con" && a.Name == c.con:
			return m.eval(a.Body, inner(where, a.Vars, c.with))
		case a.Kind == api.AInt && c.is == "number" && a.N == c.n:
			return m.eval(a.Body, where)
		case a.Kind == api.AAll:
			return m.eval(a.Body, inner(where, []string{a.Name}, []int{v}))
		}
	}
	panic(api.ErrMatch)
}

func (m *model) prim(x api.Exp, where map[string]int) int {
	with := m.atoms(x.Atoms, where)
	n := prim.Find(x.Name)
	for i := range with {
		must := prim.Need(n, i)
		if must == 0 {
			continue
		}
		with[i] = m.know(with[i])
		is := m.things[with[i]].is
		if must == 2 && is != "number" {
			panic(api.ErrInt)
		}
		if must == 3 && is != "variable" || must == 4 && is != "array" {
			panic(api.ErrRef)
		}
	}
	return m.told(n, with)
}

func (m *model) told(n int, with []int) int {
	first := m.things[with[0]]
	switch n {
	case 8:
		m.out = append(m.out, first.n)
		return with[0]
	case 9:
		return m.know(with[1])
	case 10:
		return m.thing(cell{is: "variable", with: []int{with[0]}})
	case 11:
		return m.know(first.with[0])
	case 12:
		first.with[0] = with[1]
		return m.number(0)
	case 13:
		if first.n < 0 || first.n > 1024 {
			panic(api.ErrCount)
		}
		return m.thing(cell{is: "array", with: slices.Repeat([]int{with[1]}, int(first.n))})
	case 14, 15:
		i := m.things[with[1]].n
		if i < 0 || i >= int64(len(first.with)) {
			panic(api.ErrIndex)
		}
		if n == 14 {
			return m.know(first.with[i])
		}
		first.with[i] = with[2]
		return m.number(0)
	case 16:
		return m.number(int64(len(first.with)))
	}
	x, e := prim.Do(n, first.n, m.things[with[1]].n)
	if e != api.OK {
		panic(e)
	}
	return m.number(x)
}
