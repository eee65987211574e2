package gen_test

import (
	"fmt"
	"maps"
	"math"
	"math/rand"
	"slices"
	"testing"

	"midden/api"
	"midden/scope"
)

// maker makes random programs that are right, of few names, so that inner ones often hide outer ones.
type maker struct{ *rand.Rand }

func newMaker(seed int64) maker { return maker{rand.New(rand.NewSource(seed))} }

func pick[T any](m maker, l []T) T { return l[m.Intn(len(l))] }

// someOf makes so many, sometimes with spare room behind them.
func someOf[T any](m maker, many int, one func() T) []T {
	var l []T
	if m.Intn(2) == 0 {
		l = make([]T, 0, many+2)
	}
	for range many {
		l = append(l, one())
	}
	return l
}

var (
	someNames   = []string{"a", "b", "c", "d", "e", "f", "g", "h", "main"}
	someNumbers = []int64{0, 1, 2, 3, -1, 7, 1 << 32, math.MaxInt64, math.MinInt64}
	someDatas   = []api.Data{{Name: "N"}, {Name: "C", Arity: 1}, {Name: "P", Arity: 2}, {Name: "T", Arity: 3}, {Name: "E", Arity: 8}}
	somePrims   = map[string]int{"#add": 2, "#lt": 2, "#emit": 1, "#seq": 2, "#ref": 1, "#get": 1, "#set": 2, "#put": 3, "#len": 1}
)

// unlike takes so many names, no two the same.
func (m maker) unlike(many int) []string {
	l := slices.Clone(someNames)
	m.Shuffle(len(l), func(i, j int) { l[i], l[j] = l[j], l[i] })
	return l[:many]
}

func (m maker) atom(names []string) api.Atom {
	if m.Intn(3) == 0 {
		return number(pick(m, someNumbers))
	}
	return api.Atom{Name: pick(m, names), N: m.Int63()}
}

func (m maker) atoms(many int, names []string) []api.Atom {
	return someOf(m, many, func() api.Atom { return m.atom(names) })
}

// exp makes an expression in which these names stand, with so many others within one another.
func (m maker) exp(names []string, room int) api.Exp {
	way := m.Intn(10)
	if room <= 0 {
		way = m.Intn(5)
	}
	var x api.Exp
	switch way {
	case 0, 1:
		x = app(pick(m, names), m.atoms(pick(m, []int{0, 0, 1, 1, 2, 3, 8}), names)...)
	case 2:
		d := pick(m, someDatas)
		x = con(d.Name, m.atoms(d.Arity, names)...)
	case 3:
		all := []string{"#add", "#lt", "#emit", "#seq", "#ref", "#get", "#set", "#put", "#len"}
		name := pick(m, all)
		x = prim(name, m.atoms(somePrims[name], names)...)
	case 4:
		x = num(pick(m, someNumbers))
	case 5, 6, 7:
		own := m.unlike(1 + m.Intn(4))
		names = slices.Concat(names, own)
		x = let(m.exp(names, room-1), m.binds(own, names, room-1)...)
	default:
		x = choice(m.exp(names, room-1), m.alts(names, room-1)...)
	}
	x.At = m.Int()
	return x
}

// binds makes one of each name: a function, a thunk, or what is laid by a class of its own.
func (m maker) binds(own, names []string, room int) []api.Bind {
	var l []api.Bind
	for _, name := range own {
		b := bind(name, api.Exp{})
		switch m.Intn(7) {
		case 0:
			d := pick(m, someDatas)
			b.Form.Body = con(d.Name, m.atoms(d.Arity, names)...)
		case 1:
			b.Form.Body = num(pick(m, someNumbers))
		case 2:
			b.Form.Body = m.picking(names)
		case 3, 4:
			b.Form.Args = m.unlike(1 + m.Intn(5))
			b.Form.Body = m.exp(slices.Concat(names, b.Form.Args), room)
		default:
			b.Form.Body = m.exp(names, room)
		}
		b.At = m.Int()
		l = append(l, b)
	}
	return l
}

// picking makes a case that picks a field, or nearly.
func (m maker) picking(names []string) api.Exp {
	d := pick(m, someDatas[1:])
	own := m.unlike(d.Arity)
	x := choice(app(pick(m, names)), onCon(d.Name, app(pick(m, own)), own...))
	switch m.Intn(8) {
	case 0:
		x.Alts = append(x.Alts, onAll("a", app("a")))
	case 1:
		x.Kids[0].Atoms = m.atoms(1, names)
	case 2:
		x.Alts[0].Body.Name = pick(m, names)
	}
	return x
}

func (m maker) alts(names []string, room int) []api.Alt {
	var l []api.Alt
	for _, i := range m.Perm(len(someDatas))[:m.Intn(3)] {
		d := someDatas[i]
		own := m.unlike(d.Arity)
		l = append(l, onCon(d.Name, m.exp(slices.Concat(names, own), room), own...))
	}
	for _, i := range m.Perm(len(someNumbers))[:m.Intn(3)] {
		l = append(l, onInt(someNumbers[i], m.exp(names, room)))
	}
	m.Shuffle(len(l), func(i, j int) { l[i], l[j] = l[j], l[i] })
	if len(l) == 0 || m.Intn(2) == 0 {
		own := m.unlike(1)
		l = append(l, onAll(own[0], m.exp(slices.Concat(names, own), room)))
	}
	return l
}

func (m maker) program() api.Program {
	names := m.unlike(m.Intn(4))
	if !slices.Contains(names, "main") {
		names = append(names, "main")
	}
	m.Shuffle(len(names), func(i, j int) { names[i], names[j] = names[j], names[i] })
	p := api.Program{Datas: slices.Clone(someDatas)}
	m.Shuffle(len(p.Datas), func(i, j int) { p.Datas[i], p.Datas[j] = p.Datas[j], p.Datas[i] })
	p.Binds = m.binds(names, names, 1+m.Intn(5))
	return p
}

// P13.1, P13.2: random programs that are right, by the model.
func TestRandomPrograms(t *testing.T) {
	m := newMaker(1)
	seen := map[string]int{}
	for range 4000 {
		c := byModel(t, m.program()).c
		for _, f := range c.Infos {
			seen[fmt.Sprint("infos of kind ", f.Kind)]++
			seen[fmt.Sprint("infos that need ", min(f.Free, 5))]++
		}
		for _, x := range c.Insns {
			seen[fmt.Sprint("instructions ", x.Op)]++
			for _, k := range x.Makes {
				seen[fmt.Sprint("closures ", k.Kind)]++
			}
			for _, a := range x.Arms {
				seen[fmt.Sprint("arms ", a.Kind)]++
			}
			if x.Op == api.ICase {
				seen[fmt.Sprint("kept ", min(len(x.Keep), 5))]++
			}
		}
	}
	for _, what := range []string{"infos of kind 3", "infos of kind 6", "infos that need 0", "infos that need 5", "instructions 1", "instructions 2", "instructions 3",
		"instructions 4", "instructions 5", "instructions 6", "closures 1", "closures 2", "closures 3", "closures 6", "closures 7", "arms 1", "arms 2", "arms 3", "kept 0", "kept 5"} {
		if seen[what] < 200 {
			t.Errorf("%s: %d: too few", what, seen[what])
		}
	}
}

// P13.1: random programs of which something is spoiled: what scope.Check tells, or the code.
func TestRandomFaults(t *testing.T) {
	m := newMaker(2)
	seen := map[api.Errno]int{}
	for range 6000 {
		p := m.program()
		m.spoil(&p)
		at, e := scope.Check(p)
		got := byModel(t, p)
		if got.at != at || got.e != e {
			t.Fatalf("%d at %d; want %d at %d", int(got.e), got.at, int(e), at)
		}
		seen[e]++
	}
	for _, e := range []api.Errno{api.OK, api.ErrArg, api.ErrTwice, api.ErrName, api.ErrCon, api.ErrArity, api.ErrPrim, api.ErrMain} {
		if seen[e] < 20 {
			t.Errorf("%d: %d: too few", int(e), seen[e])
		}
	}
}

func (m maker) spoil(p *api.Program) {
	b := &p.Binds[m.Intn(len(p.Binds))]
	spots := []*api.Exp{&b.Form.Body}
	for i := 0; i < len(spots); i++ {
		x := spots[i]
		for k := range x.Kids {
			spots = append(spots, &x.Kids[k])
		}
		for k := range x.Binds {
			spots = append(spots, &x.Binds[k].Form.Body)
		}
		for k := range x.Alts {
			spots = append(spots, &x.Alts[k].Body)
		}
	}
	x := pick(m, spots)
	switch m.Intn(7) {
	case 0:
		x.Kind = pick(m, []int{-1, 0, 1, 2, 3, 4, 5, 6, 7, math.MaxInt, math.MinInt})
	case 1:
		x.Name = pick(m, []string{"", "a", "nobody", "N", "P", "#add"})
	case 2:
		x.Atoms = append(x.Atoms, m.atom([]string{"a", "nobody", "main"}))
	case 3:
		b.Name = pick(m, []string{"", "a", "b", "main", "new"})
	case 4:
		x.Kids, x.Alts, x.Binds = x.Kids[:len(x.Kids)/2], x.Alts[:len(x.Alts)/2], x.Binds[:len(x.Binds)/2]
	case 5:
		b.Form.Args = someOf(m, m.Intn(10), func() string { return pick(m, append([]string{"", "i", "j", "k", "l"}, someNames...)) })
	case 6:
		i := m.Intn(len(p.Datas))
		p.Datas[i] = api.Data{Name: pick(m, p.Datas).Name, Arity: pick(m, []int{-1, 0, 1, 2, 8, 9, math.MaxInt}), At: m.Int()}
	}
}

// P13.3: names.

// renamer makes a program of which names are others. What a local, what a global is called is told by functions.
type renamer struct {
	local  func(old string) string
	global func(old string) string
}

func same(name string) string { return name }

func (r renamer) bind(names []string, in map[string]string) ([]string, map[string]string) {
	inner := maps.Clone(in)
	var l []string
	for _, old := range names {
		inner[old] = r.local(old)
		l = append(l, inner[old])
	}
	return l, inner
}

func (r renamer) name(name string, in map[string]string) string {
	if other, local := in[name]; local {
		return other
	}
	return r.global(name)
}

func (r renamer) form(f api.Form, in map[string]string) api.Form {
	args, inner := r.bind(f.Args, in)
	return api.Form{Args: args, Body: r.exp(f.Body, inner)}
}

func (r renamer) exp(x api.Exp, in map[string]string) api.Exp {
	y := api.Exp{Kind: x.Kind, Name: x.Name, N: x.N}
	if x.Kind == api.XApp {
		y.Name = r.name(x.Name, in)
	}
	for _, a := range x.Atoms {
		if a.Name != "" {
			a.Name = r.name(a.Name, in)
		}
		y.Atoms = append(y.Atoms, a)
	}
	inner := in
	if x.Kind == api.XLet {
		var names []string
		for _, b := range x.Binds {
			names = append(names, b.Name)
		}
		names, inner = r.bind(names, in)
		for i, b := range x.Binds {
			y.Binds = append(y.Binds, api.Bind{Name: names[i], Form: r.form(b.Form, inner)})
		}
	}
	for _, kid := range x.Kids {
		y.Kids = append(y.Kids, r.exp(kid, inner))
	}
	for _, a := range x.Alts {
		b := api.Alt{Kind: a.Kind, Name: a.Name, N: a.N}
		own := in
		switch a.Kind {
		case api.ACon:
			b.Vars, own = r.bind(a.Vars, in)
		case api.AAll:
			names, inner := r.bind([]string{a.Name}, in)
			b.Name, own = names[0], inner
		}
		b.Body = r.exp(a.Body, own)
		y.Alts = append(y.Alts, b)
	}
	return y
}

func (r renamer) program(p api.Program) api.Program {
	q := api.Program{Datas: p.Datas}
	for _, b := range p.Binds {
		q.Binds = append(q.Binds, api.Bind{Name: r.global(b.Name), Form: r.form(b.Form, map[string]string{})})
	}
	return q
}

func sameTold(t *testing.T, p, q api.Program) {
	t.Helper()
	a, b := byModel(t, p), byModel(t, q)
	if fmt.Sprintf("%+v", a) != fmt.Sprintf("%+v", b) {
		t.Errorf("%s, %d; %s, %d: %s", told(a.c), int(a.e), told(b.c), int(b.e), short(p))
	}
}

func TestNames(t *testing.T) {
	m := newMaker(3)
	for range 2000 {
		p := m.program()
		n := 1 << 20
		up := func(string) string { n++; return fmt.Sprint("v", n) }
		down := func(string) string { n--; return fmt.Sprint("v", n) }
		sameTold(t, p, renamer{up, same}.program(p))
		sameTold(t, p, renamer{down, same}.program(p))
	}
	for _, two := range [][2]string{
		{`main = \ x -> case x of { y -> main y; };`, `main = \ y -> case y of { x -> main x; };`},
		{`data P 2; main = \ a b -> case a of { P b c -> b c; d -> d b; };`, `data P 2; main = \ x y -> case x of { P x y -> x y; x -> x y; };`},
		{`main = \ a -> let { f = \ b -> f b a; } in f;`, `main = \ z -> let { a = \ main -> a main z; } in a;`},
	} {
		sameTold(t, program(t, two[0]), program(t, two[1]))
	}
}

// With other names of globals, too, the code is the same but for these.
func TestNamesOfGlobals(t *testing.T) {
	m := newMaker(4)
	other := func(name string) string {
		if name == "main" {
			return name
		}
		return "other" + name
	}
	for range 1000 {
		p := m.program()
		a, b := byModel(t, p), byModel(t, renamer{other, other}.program(p))
		for i, g := range a.c.Globals {
			a.c.Globals[i].Name = other(g.Name)
		}
		if fmt.Sprintf("%+v", a) != fmt.Sprintf("%+v", b) {
			t.Errorf("%s, %d; %s, %d: %s", told(a.c), int(a.e), told(b.c), int(b.e), short(p))
		}
	}
}

// P13.4: one bind more.

// formOf tells the instructions of the form with that info, which begin at its To and end where the next one begins, with
// places of instructions told from there on, and without the numbers of infos; and the infos that they name, in order.
func formOf(c api.Code, info int) ([]api.Insn, []int) {
	first, end := c.Infos[info].To, len(c.Insns)
	if info+1 < len(c.Infos) {
		end = c.Infos[info+1].To
	}
	var l []api.Insn
	var named []int
	for _, x := range c.Insns[first:end] {
		if x.Op == api.ICase {
			x.A -= first
		}
		x.Arms, x.Makes = slices.Clone(x.Arms), slices.Clone(x.Makes)
		for i := range x.Arms {
			x.Arms[i].To -= first
		}
		for i, k := range x.Makes {
			if k.Kind == api.KFun || k.Kind == api.KThunk {
				named = append(named, k.Info)
				x.Makes[i].Info = 0
			}
		}
		l = append(l, x)
	}
	return l, named
}

// sameForms holds a form of one code, with all forms in it, to one of another code.
func sameForms(t *testing.T, a, b api.Code, i, j int) int {
	t.Helper()
	x, in := formOf(a, i)
	y, within := formOf(b, j)
	if len(x) != len(y) || fmt.Sprintf("%+v", x) != fmt.Sprintf("%+v", y) || len(in) != len(within) {
		t.Errorf("the infos %d, %d: %s; %s", i, j, told(a), told(b))
		return 0
	}
	all := 1
	for k := range in {
		all += sameForms(t, a, b, in[k], within[k])
	}
	return all
}

func TestOneBindMore(t *testing.T) {
	m := newMaker(5)
	for range 2000 {
		p := m.program()
		q := p
		names := []string{"new"}
		for _, b := range p.Binds {
			names = append(names, b.Name)
		}
		q.Binds = slices.Concat(p.Binds, m.binds([]string{"new"}, names, m.Intn(5)))
		a, b := byModel(t, p).c, byModel(t, q).c
		n := len(p.Binds)
		if !slices.Equal(a.Cons, b.Cons) || len(b.Globals) != n+1 || !slices.Equal(a.Globals, b.Globals[:n]) {
			t.Errorf("%v, %v; %v, %v", a.Cons, a.Globals, b.Cons, b.Globals)
		}
		all := 0
		for i := range n {
			all += sameForms(t, a, b, i, i)
		}
		if all != len(a.Infos) {
			t.Errorf("%d of %d forms are in the binds", all, len(a.Infos))
		}
	}
}
