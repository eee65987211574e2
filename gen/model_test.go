package gen_test

import (
	"fmt"
	"reflect"
	"slices"
	"strings"
	"testing"

	"midden/api"
	"midden/code"
	"midden/gen"
	primitives "midden/prim"
	"midden/scope"
	"midden/tree"
	"midden/vars"
)

// answer is all that Compile tells.
type answer struct {
	c  api.Code
	at int
	e  api.Errno
}

func compile(p api.Program) answer {
	c, at, e := gen.Compile(p)
	return answer{c, at, e}
}

// stand is a name and the local at which it stands. Lists of these are never changed: each inner scope has one of its own.
type stand struct {
	name  string
	place int
}

// from tells that names stand one behind the other, from a place on.
func from(place int, names ...string) []stand {
	var l []stand
	for i, name := range names {
		l = append(l, stand{name, place + i})
	}
	return l
}

// met is a form that has a number, and what it needs.
type met struct {
	form  api.Form
	needs []string
}

// The model follows the chapter's scheme: each expression is a list of instructions, of which the first will have the
// number at. Forms are asked for their free names one by one.
type model struct {
	p    api.Program
	mets []met
}

func (m *model) con(name string) int {
	return slices.IndexFunc(m.p.Datas, func(d api.Data) bool { return d.Name == name })
}

func isLocal(name string, in []stand) bool {
	return slices.ContainsFunc(in, func(s stand) bool { return s.name == name })
}

// place is what bound a name last: a local, else a global.
func (m *model) place(name string, in []stand) int {
	for _, s := range slices.Backward(in) {
		if s.name == name {
			return s.place
		}
	}
	return -1 - slices.IndexFunc(m.p.Binds, func(b api.Bind) bool { return b.Name == name })
}

func (m *model) places(names []string, in []stand) []int {
	var l []int
	for _, name := range names {
		l = append(l, m.place(name, in))
	}
	return l
}

// locals tells those of free names that stand for locals.
func locals(names []string, in []stand) []string {
	return slices.DeleteFunc(slices.Clone(names), func(name string) bool { return !isLocal(name, in) })
}

// kept tells what the alternatives need.
func kept(alts []api.Alt, in []stand) []string {
	var all []string
	for _, a := range alts {
		own := map[int][]string{api.ACon: a.Vars, api.AAll: {a.Name}}[a.Kind]
		for _, name := range vars.Within(a.Body) {
			if !slices.Contains(own, name) && !slices.Contains(all, name) {
				all = append(all, name)
			}
		}
	}
	return locals(all, in)
}

// meet gives a form the next number.
func (m *model) meet(f api.Form, in []stand) int {
	m.mets = append(m.mets, met{f, locals(vars.Free(f), in)})
	return len(m.mets) - 1
}

func ints(atoms []api.Atom) []api.Make {
	var l []api.Make
	for _, a := range atoms {
		if a.Name == "" {
			l = append(l, api.Make{Kind: api.KInt, N: a.N})
		}
	}
	return l
}

// atoms tells their places, if the KInts of their numbers stand from a place on.
func (m *model) atoms(l []api.Atom, in []stand, first int) []int {
	var all []int
	for i, a := range l {
		if a.Name == "" {
			all = append(all, first+len(ints(l[:i])))
		} else {
			all = append(all, m.place(a.Name, in))
		}
	}
	return all
}

func (m *model) lay(x api.Exp, in []stand, b, at int) []api.Insn {
	makes := ints(x.Atoms)
	many := b + len(makes)
	let := []api.Insn{{Op: api.ILet, B: b, Makes: makes}}
	if len(makes) == 0 {
		let = nil
	}
	switch x.Kind {
	case api.XInt:
		return []api.Insn{{Op: api.ILet, B: b, Makes: []api.Make{{Kind: api.KInt, N: x.N}}}, {Op: api.IRet, A: b, B: b + 1}}
	case api.XCon:
		made := api.Make{Kind: api.KCon, Info: m.con(x.Name), From: m.atoms(x.Atoms, in, b)}
		return []api.Insn{{Op: api.ILet, B: b, Makes: append(makes, made)}, {Op: api.IRet, A: many, B: many + 1}}
	case api.XApp:
		return append(let, api.Insn{Op: api.ICall, A: m.place(x.Name, in), B: many, List: m.atoms(x.Atoms, in, b)})
	case api.XPrim:
		return append(let, api.Insn{Op: api.IPrim, A: primitives.Find(x.Name), B: many, List: m.atoms(x.Atoms, in, b)})
	case api.XLet:
		return m.layLet(x, in, b, at)
	}
	return m.layCase(x, in, b, at)
}

func (m *model) layLet(x api.Exp, in []stand, b, at int) []api.Insn {
	var makes []api.Make
	firsts := map[int]int{} // where the numbers of each bind stand
	for i, bind := range x.Binds {
		firsts[i] = b + len(makes)
		if vars.Class(bind.Form) == api.KCon {
			makes = append(makes, ints(bind.Form.Body.Atoms)...)
		}
	}
	inner := in
	for i, bind := range x.Binds {
		inner = slices.Concat(inner, from(b+len(makes)+i, bind.Name))
	}
	for i, bind := range x.Binds {
		f := bind.Form
		switch class := vars.Class(f); class {
		case api.KCon:
			makes = append(makes, api.Make{Kind: class, Info: m.con(f.Body.Name), From: m.atoms(f.Body.Atoms, inner, firsts[i])})
		case api.KInt:
			makes = append(makes, api.Make{Kind: class, N: f.Body.N})
		case api.KSel:
			con, field, of, _ := vars.Field(f)
			makes = append(makes, api.Make{Kind: class, Info: m.con(con), N: int64(field), From: []int{m.place(of, inner)}})
		default:
			n := m.meet(f, inner)
			makes = append(makes, api.Make{Kind: class, Info: n, From: m.places(m.mets[n].needs, inner)})
		}
	}
	body := m.lay(x.Kids[0], inner, b+len(makes), at+1)
	return slices.Concat([]api.Insn{{Op: api.ILet, B: b, Makes: makes}}, body)
}

func (m *model) layCase(x api.Exp, in []stand, b, at int) []api.Insn {
	list, keep := locals(vars.Within(x.Kids[0]), in), kept(x.Alts, in)
	asked := m.lay(x.Kids[0], from(0, list...), len(list), at+1)
	value := len(keep)
	arms := api.Insn{Op: api.IArms, B: value + 1}
	to := at + 1 + len(asked) + 1
	var bodies []api.Insn
	for _, a := range x.Alts {
		arm, own, many := api.Arm{Kind: a.Kind, To: to + len(bodies)}, []stand(nil), value+1
		switch a.Kind {
		case api.ACon:
			arm.Con, own, many = m.con(a.Name), from(many, a.Vars...), many+len(a.Vars)
		case api.AInt:
			arm.N = a.N
		case api.AAll:
			own = from(value, a.Name)
		}
		arms.Arms = append(arms.Arms, arm)
		bodies = append(bodies, m.lay(a.Body, slices.Concat(from(0, keep...), own), many, arm.To)...)
	}
	first := api.Insn{Op: api.ICase, A: at + 1 + len(asked), B: b, List: m.places(list, in), Keep: m.places(keep, in)}
	return slices.Concat([]api.Insn{first}, asked, []api.Insn{arms}, bodies)
}

// modelled is what Compile must answer.
func modelled(p api.Program) answer {
	if at, e := scope.Check(p); e != api.OK {
		return answer{at: at, e: e}
	}
	m := &model{p: p}
	var c api.Code
	for _, d := range p.Datas {
		c.Cons = append(c.Cons, api.Con{Name: d.Name, Arity: d.Arity})
	}
	for _, b := range p.Binds {
		c.Globals = append(c.Globals, api.Global{Name: b.Name, Info: m.meet(b.Form, nil)})
	}
	big := false
	for i := 0; i < len(m.mets); i++ {
		args, needs := m.mets[i].form.Args, m.mets[i].needs
		info := api.Info{Kind: api.KThunk, Arity: len(args), Free: len(needs), To: len(c.Insns)}
		if len(args) > 0 {
			info.Kind = api.KFun
		}
		c.Infos = append(c.Infos, info)
		all := slices.Concat(args, needs)
		c.Insns = append(c.Insns, m.lay(m.mets[i].form.Body, from(0, all...), len(all), len(c.Insns))...)
		big = big || len(needs) > 255
	}
	if big || slices.ContainsFunc(c.Insns, func(x api.Insn) bool { return x.B > 1000 }) {
		return answer{e: api.ErrBig}
	}
	return answer{c: c}
}

// holds holds Compile, twice, to what it must answer, with all fields that nothing is said of; what is told to be right;
// and what was handed in to what it was, with its spare room.
func holds(t *testing.T, p api.Program, want answer) answer {
	t.Helper()
	was := whole(p)
	var got answer
	for range 2 {
		got = compile(p)
		if fmt.Sprintf("%+v", got) != fmt.Sprintf("%+v", want) {
			t.Errorf("%s, %d, %d; want %s, %d, %d: %s", told(got.c), got.at, int(got.e), told(want.c), want.at, int(want.e), short(p))
			return got
		}
		if at, e := code.Check(got.c); at != 0 || e != api.OK {
			t.Errorf("it is not right: %d, %d: %s", at, int(e), told(got.c))
		}
		spoil(t, got.c)
	}
	if whole(p) != was {
		t.Errorf("it was changed: %s", short(was))
	}
	return compile(p)
}

// byModel holds Compile to the model.
func byModel(t *testing.T, p api.Program) answer {
	t.Helper()
	return holds(t, p, modelled(p))
}

// spoil writes into all lists of numbers of a code, with their spare room: no two share any.
func spoil(t *testing.T, c api.Code) {
	t.Helper()
	var lists [][]int
	for _, x := range c.Insns {
		lists = append(lists, x.List, x.Keep)
		for _, m := range x.Makes[:cap(x.Makes)] {
			lists = append(lists, m.From)
		}
	}
	for i, l := range lists {
		for k := range l[:cap(l)] {
			l[:cap(l)][k] = i
		}
	}
	for i, l := range lists {
		for _, n := range l[:cap(l)] {
			if n != i {
				t.Errorf("two lists share their room: %d, %d", n, i)
			}
		}
	}
	for i, x := range c.Insns {
		for k := range x.Makes[:cap(x.Makes)] {
			x.Makes[:cap(x.Makes)][k].Kind = i
		}
		for k := range x.Arms[:cap(x.Arms)] {
			x.Arms[:cap(x.Arms)][k].To = i
		}
	}
	for i, x := range c.Insns {
		if slices.ContainsFunc(x.Makes, func(m api.Make) bool { return m.Kind != i }) || slices.ContainsFunc(x.Arms, func(a api.Arm) bool { return a.To != i }) {
			t.Errorf("two instructions share their room")
		}
	}
}

// told is a code as a text: its infos, then its instructions, each behind a sign.
func told(c api.Code) string {
	var infos, insns []string
	for _, f := range c.Infos {
		kind := map[int]string{api.KFun: "fun", api.KThunk: "thunk"}[f.Kind]
		if f.Arity != 0 {
			kind += fmt.Sprint(f.Arity)
		}
		infos = append(infos, fmt.Sprintf("%s+%d@%d", kind, f.Free, f.To))
	}
	for _, x := range c.Insns {
		insns = append(insns, fmt.Sprintf("%d %s", x.B, toldInsn(x)))
	}
	return strings.Join(infos, " ") + " | " + strings.Join(insns, " | ")
}

func toldInsn(x api.Insn) string {
	switch x.Op {
	case api.ILet:
		s := "let"
		for _, m := range x.Makes {
			s += " " + toldMake(m)
		}
		return s
	case api.ICall:
		return fmt.Sprint("call ", x.A, " ", x.List)
	case api.IRet:
		return fmt.Sprint("ret ", x.A)
	case api.ICase:
		return fmt.Sprint("case ", x.List, " keep ", x.Keep, " @", x.A)
	case api.IArms:
		s := "arms"
		for _, a := range x.Arms {
			s += fmt.Sprint(" ", map[int]string{api.ACon: fmt.Sprint("con", a.Con), api.AInt: fmt.Sprint("int", a.N), api.AAll: "all"}[a.Kind], "@", a.To)
		}
		return s
	case api.IPrim:
		return fmt.Sprint("prim", x.A, " ", x.List)
	}
	return "none"
}

func toldMake(m api.Make) string {
	switch m.Kind {
	case api.KInt:
		return fmt.Sprint("int", m.N)
	case api.KCon:
		return fmt.Sprintf("con%d%v", m.Info, m.From)
	case api.KFun:
		return fmt.Sprintf("fun%d%v", m.Info, m.From)
	case api.KThunk:
		return fmt.Sprintf("thunk%d%v", m.Info, m.From)
	case api.KSel:
		return fmt.Sprintf("sel%d.%d%v", m.Info, m.N, m.From)
	}
	return "none"
}

func short(x any) string {
	s := strings.ToValidUTF8(fmt.Sprintf("%+v", x), "?")
	if len(s) > 1200 {
		s = s[:1100] + " .. " + s[len(s)-80:]
	}
	return s
}

func program(t *testing.T, s string) api.Program {
	t.Helper()
	p, at, e := tree.Parse(s)
	if e != api.OK {
		t.Fatalf("%s: %d at %d", s, int(e), at)
	}
	return p
}

// whole tells all that something is, with the spare room of its lists.
func whole(x any) string {
	var text strings.Builder
	tell(&text, reflect.ValueOf(x))
	return text.String()
}

func tell(text *strings.Builder, v reflect.Value) {
	switch v.Kind() {
	case reflect.Struct:
		for i := range v.NumField() {
			tell(text, v.Field(i))
		}
		text.WriteByte('.')
	case reflect.Slice:
		fmt.Fprintf(text, "[%d %d %v:", v.Len(), v.Cap(), v.IsNil())
		if v.Cap() > 0 {
			v = v.Slice(0, v.Cap())
		}
		for i := range v.Len() {
			tell(text, v.Index(i))
		}
		text.WriteByte(']')
	default:
		fmt.Fprintf(text, "%#v ", v.Interface())
	}
}
