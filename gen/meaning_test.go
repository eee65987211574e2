package gen_test

import (
	"fmt"
	"slices"
	"testing"

	"midden/api"
	"midden/lazy"
	primitives "midden/prim"
)

// W2: a code does what its program means. Here codes are run by a small machine of the tests' own, as chapter 12 says what
// instructions have, and held to what package lazy tells of the program.

// cell is a closure. What one becomes, all that point to it see.
type cell struct {
	kind, info int
	n          int64
	ptrs       []*cell
}

type runner struct {
	c       api.Code
	globals []*cell
	out     []int64
	fuel    int
	shown   int
}

// started is a runner of a code, with so much fuel.
func started(c api.Code, fuel int) *runner {
	r := &runner{c: c, fuel: fuel}
	for _, g := range c.Globals {
		r.globals = append(r.globals, &cell{kind: c.Infos[g.Info].Kind, info: g.Info})
	}
	return r
}

func (r *runner) at(place int, locals []*cell) *cell {
	if place < 0 {
		return r.globals[-1-place]
	}
	return locals[place]
}

func (r *runner) all(places []int, locals []*cell) []*cell {
	var l []*cell
	for _, place := range places {
		l = append(l, r.at(place, locals))
	}
	return l
}

func numberCell(n int64) *cell { return &cell{kind: api.KInt, n: n} }

// know tells a cell's value; an error is a panic.
func (r *runner) know(c *cell) *cell {
	was := *c
	switch c.kind {
	case api.KInd:
		return r.know(c.ptrs[0])
	case api.KHole:
		panic(api.ErrLoop)
	case api.KThunk, api.KSel, api.KAp:
	default:
		return c
	}
	*c = cell{kind: api.KHole}
	var v *cell
	switch was.kind {
	case api.KThunk:
		v = r.run(r.c.Infos[was.info].To, was.ptrs)
	case api.KSel:
		of := r.know(was.ptrs[0])
		if of.kind != api.KCon || of.info != was.info {
			panic(api.ErrMatch)
		}
		v = r.know(of.ptrs[was.n])
	case api.KAp:
		v = r.call(was.ptrs[0], was.ptrs[1:])
	}
	*c = cell{kind: api.KInd, ptrs: []*cell{v}}
	return v
}

func (r *runner) call(c *cell, with []*cell) *cell {
	c = r.know(c)
	if c.kind == api.KPap {
		return r.call(c.ptrs[0], slices.Concat(c.ptrs[1:], with))
	}
	if c.kind != api.KFun {
		panic(api.ErrApply)
	}
	many := r.c.Infos[c.info].Arity
	if len(with) < many {
		return &cell{kind: api.KPap, ptrs: slices.Concat([]*cell{c}, with)}
	}
	v := r.run(r.c.Infos[c.info].To, slices.Concat(with[:many], c.ptrs))
	if len(with) > many {
		return r.call(v, with[many:])
	}
	return v
}

// run does instructions till one tells a value.
func (r *runner) run(at int, locals []*cell) *cell {
	for {
		r.fuel--
		if r.fuel < 0 {
			panic(api.ErrFull)
		}
		x := r.c.Insns[at]
		if len(locals) != x.B {
			panic(fmt.Sprint(at, ": ", len(locals), " locals, not ", x.B))
		}
		switch x.Op {
		case api.ILet:
			locals = r.lay(x.Makes, locals)
			at++
		case api.IRet:
			return r.know(r.at(x.A, locals))
		case api.ICall:
			if len(x.List) == 0 {
				return r.know(r.at(x.A, locals))
			}
			return r.call(r.at(x.A, locals), r.all(x.List, locals))
		case api.IPrim:
			return r.prim(x.A, r.all(x.List, locals))
		case api.ICase:
			value := r.run(at+1, r.all(x.List, locals))
			locals = append(r.all(x.Keep, locals), value)
			at = x.A
		case api.IArms:
			at, locals = r.arm(x.Arms, locals)
		}
	}
}

func (r *runner) lay(makes []api.Make, locals []*cell) []*cell {
	locals = slices.Clone(locals)
	first := len(locals)
	for _, k := range makes {
		locals = append(locals, &cell{kind: k.Kind, info: k.Info, n: k.N})
	}
	for i, k := range makes {
		locals[first+i].ptrs = r.all(k.From, locals)
	}
	return locals
}

func (r *runner) arm(arms []api.Arm, locals []*cell) (int, []*cell) {
	v := locals[len(locals)-1]
	for _, a := range arms {
		switch {
		case a.Kind == api.ACon && v.kind == api.KCon && v.info == a.Con:
			return a.To, slices.Concat(locals, v.ptrs)
		case a.Kind == api.AInt && v.kind == api.KInt && v.n == a.N, a.Kind == api.AAll:
			return a.To, locals
		}
	}
	panic(api.ErrMatch)
}

// prim knows what must be known, from the left, and does what chapter 11 says.
func (r *runner) prim(n int, l []*cell) *cell {
	for i := range l {
		need := primitives.Need(n, i)
		if need > 0 {
			l[i] = r.know(l[i])
		}
		if need == 2 && l[i].kind != api.KInt {
			panic(api.ErrInt)
		}
		if need == 3 && l[i].kind != api.KRef || need == 4 && l[i].kind != api.KArr {
			panic(api.ErrRef)
		}
	}
	switch primitives.Name(n) {
	case "#emit":
		r.out = append(r.out, l[0].n)
		return l[0]
	case "#seq":
		return r.know(l[1])
	case "#ref":
		return &cell{kind: api.KRef, ptrs: l}
	case "#get":
		return r.know(l[0].ptrs[0])
	case "#set":
		l[0].ptrs[0] = l[1]
		return numberCell(0)
	case "#arr":
		if l[0].n < 0 || l[0].n > api.MaxItems {
			panic(api.ErrCount)
		}
		return &cell{kind: api.KArr, ptrs: slices.Repeat(l[1:], int(l[0].n))}
	case "#at", "#put":
		if l[1].n < 0 || l[1].n >= int64(len(l[0].ptrs)) {
			panic(api.ErrIndex)
		}
		if len(l) == 2 {
			return r.know(l[0].ptrs[l[1].n])
		}
		l[0].ptrs[l[1].n] = l[2]
		return numberCell(0)
	case "#len":
		return numberCell(int64(len(l[0].ptrs)))
	}
	v, e := primitives.Do(n, l[0].n, l[1].n)
	if e != api.OK {
		panic(e)
	}
	return numberCell(v)
}

func (r *runner) tree(c *cell, depth int) api.Tree {
	if depth == 0 || r.shown == api.MaxShown {
		return api.Tree{Kind: api.SCut}
	}
	r.shown++
	c = r.know(c)
	var t api.Tree
	switch c.kind {
	case api.KInt:
		return api.Tree{Kind: api.SInt, N: c.n}
	case api.KCon:
		t = api.Tree{Kind: api.SCon, Name: r.c.Cons[c.info].Name}
	case api.KRef:
		t = api.Tree{Kind: api.SRef}
	case api.KArr:
		t = api.Tree{Kind: api.SArr}
	default:
		return api.Tree{Kind: api.SFun}
	}
	for _, kid := range slices.Clone(c.ptrs) {
		t.Kids = append(t.Kids, r.tree(kid, depth-1))
	}
	return t
}

// asked is what is made of a program, and shown to a depth.
type asked struct {
	name  string
	with  []int64
	depth int
}

// byCode tells the outcome of a code, and what was put out.
func (a asked) byCode(c api.Code, fuel int) (o api.Outcome, out []int64) {
	r := started(c, fuel)
	defer func() {
		out = r.out
		switch e := recover().(type) {
		case nil:
		case api.Errno:
			o = api.Outcome{Kind: api.OError, Err: e}
			if e == api.ErrLoop {
				o = api.Outcome{Kind: api.OLoop}
			}
		default:
			panic(e)
		}
	}()
	g := r.globals[slices.IndexFunc(c.Globals, func(g api.Global) bool { return g.Name == a.name })]
	if len(a.with) > 0 {
		g = &cell{kind: api.KAp, ptrs: []*cell{g}}
		for _, n := range a.with {
			g.ptrs = append(g.ptrs, numberCell(n))
		}
	}
	return api.Outcome{Kind: api.OValue, Tree: r.tree(g, a.depth)}, nil
}

// byMeaning tells them of a program; of one that takes too long, that.
func (a asked) byMeaning(t *testing.T, p api.Program, fuel int) (api.Outcome, []int64) {
	t.Helper()
	m, at, e := lazy.New(p)
	if e != api.OK {
		t.Fatalf("%d at %d: %s", int(e), at, short(p))
	}
	h, e := m.Make(a.name, a.with)
	if e != api.OK {
		t.Fatalf("%d: %s", int(e), short(p))
	}
	o, e := m.Show(h, a.depth, fuel)
	if e != api.OK {
		t.Fatalf("%d: %s", int(e), short(p))
	}
	return o, m.Out()
}

// means holds a program's code to what the program means; it tells the outcome.
func means(t *testing.T, p api.Program, a asked) api.Outcome {
	t.Helper()
	want, put := a.byMeaning(t, p, 3000)
	if want.Kind == api.OFuel {
		return want
	}
	got, out := a.byCode(compile(p).c, 40000)
	if fmt.Sprintf("%+v", got) != fmt.Sprintf("%+v", want) || !slices.Equal(out, put) {
		t.Errorf("%+v, %v; want %+v, %v: %s: %s", got, out, want, put, short(a), short(p))
	}
	return want
}

func TestMeaning(t *testing.T) {
	for _, w := range []struct {
		text string
		with []int64
		want string
	}{
		{`main = \ n -> #add n 1;`, []int64{4}, "5"},
		{"main = let { x = #emit 7; } in #add x x;", nil, "14"},
		{"main = let { x = #add x 1; } in x;", nil, "loop"},
		{`main = \ n -> #div 10 n;`, []int64{0}, "fail 40"},
		{`data Nil 0; data Cons 2; from = \ n -> let { k = #add n 1; r = from k; } in Cons n r; main = from 1;`, nil, "(Cons 1 (Cons 2 (Cons _ _)))"},
		{"data P 2; main = let { p = P 1 q; q = case p of { P a b -> a; }; } in q;", nil, "1"},
		{`main = \ n -> case #ref n of { r -> case #set r 9 of { u -> #get r; }; };`, []int64{1}, "9"},
		{`f = \ a b -> a; main = f 1;`, nil, "<fun>"},
		{"main = 1;", []int64{2}, "fail 43"},
		{`data P 2; main = \ a b c -> let { f = \ x -> #sub x b; p = P d a; d = case q of { P u v -> v; }; q = P b c; } in case f d of { 3 -> 0; n -> P n p; };`,
			[]int64{1, 2, 9}, "(P 7 (P 9 1))"},
		{`data P 2; main = \ a b c -> case case c of { 3 -> P b a; n -> P n n; } of { P a c -> case #sub a c of { d -> P d b; }; };`, []int64{1, 2, 3}, "(P 1 2)"},
		{`data P 2; data Q 2; main = \ a -> let { q = Q a a; s = case q of { P x y -> y; }; } in s;`, []int64{1}, "fail 42"},
	} {
		if got := shown(means(t, program(t, w.text), asked{"main", w.with, 3})); got != w.want {
			t.Errorf("%s: %s; want %s", w.text, got, w.want)
		}
	}
}

// What a name is meant to stand for, so that random programs do something ahead of their first error.
const (
	aNum  = "num"
	aList = "list" // Nil, or Cons of a number and a list
	aFun  = "fun"  // of a number, telling one
	aFun2 = "fun2" // of two numbers, telling one
	aRef  = "ref"  // that holds a number
)

var allKinds = []string{aNum, aNum, aNum, aList, aList, aFun, aFun, aFun2, aRef}

// bound is a name and what it is meant to be.
type bound struct{ name, kind string }

// sensible makes programs whose names mostly are what they are meant to be.
type sensible struct{ maker }

// named is a name in scope of that kind, if there is one.
func (m sensible) named(kind string, in []bound) (string, bool) {
	var l []string
	for i, b := range in {
		hidden := slices.ContainsFunc(in[i+1:], func(o bound) bool { return o.name == b.name })
		if !hidden && (b.kind == kind || m.Intn(60) == 0) {
			l = append(l, b.name)
		}
	}
	if len(l) == 0 {
		return "", false
	}
	return pick(m.maker, l), true
}

func (m sensible) atoms(in []bound, kinds ...string) []api.Atom {
	var l []api.Atom
	for _, kind := range kinds {
		name, ok := m.named(kind, in)
		if !ok || kind == aNum && m.Intn(4) == 0 {
			l = append(l, number(int64(m.Intn(7)-1)))
		} else {
			l = append(l, named(name))
		}
	}
	return l
}

// simple is an expression without others in it that is meant to tell one of a kind.
func (m sensible) simple(kind string, in []bound) api.Exp {
	call := func(whom string, with ...string) (api.Exp, bool) {
		name, ok := m.named(whom, in)
		return app(name, m.atoms(in, with...)...), ok
	}
	if x, ok := call(kind); ok && m.Intn(5) == 0 {
		return x
	}
	switch kind {
	case aList:
		if m.Intn(3) == 0 {
			return con("Nil")
		}
		return con("Cons", m.atoms(in, pick(m.maker, allKinds), aList)...)
	case aRef:
		return prim("#ref", m.atoms(in, aNum)...)
	case aFun:
		if x, ok := call(aFun2, aNum); ok {
			return x
		}
	case aNum:
		if x, ok := call(aFun, aNum); ok && m.Intn(3) == 0 {
			return x
		}
		if x, ok := call(aFun2, aNum, aNum); ok && m.Intn(3) == 0 {
			return x
		}
		if _, ok := m.named(aRef, in); ok && m.Intn(3) == 0 {
			return pick(m.maker, []api.Exp{prim("#get", m.atoms(in, aRef)...), prim("#set", m.atoms(in, aRef, aNum)...)})
		}
		if m.Intn(4) == 0 {
			return prim("#emit", m.atoms(in, aNum)...)
		}
		return prim(primitives.Name(1+m.Intn(7)), m.atoms(in, aNum, aNum)...)
	}
	if x, ok := call(kind); ok {
		return x
	}
	return num(int64(m.Intn(7) - 1))
}

func (m sensible) exp(kind string, room int, in []bound) api.Exp {
	if room <= 0 {
		return m.simple(kind, in)
	}
	switch m.Intn(5) {
	case 0, 1:
		return m.let(kind, room, in)
	case 2, 3:
		return m.choice(kind, room, in)
	}
	return m.simple(kind, in)
}

func (m sensible) form(kind string, room int, in []bound) api.Form {
	args := map[string]int{aFun: 1, aFun2: 2}[kind]
	if args == 0 {
		if m.Intn(4) == 0 && kind == aNum {
			if list, ok := m.named(aList, in); ok {
				return api.Form{Body: choice(app(list), onCon("Cons", app("a"), "a", "b"))}
			}
		}
		return api.Form{Body: m.exp(kind, room, in)}
	}
	names := m.unlike(args)
	for _, name := range names {
		in = append(slices.Clone(in), bound{name, aNum})
	}
	return api.Form{Args: names, Body: m.exp(aNum, room, in)}
}

func (m sensible) let(kind string, room int, in []bound) api.Exp {
	names := m.unlike(1 + m.Intn(4))
	var x api.Exp
	var own []bound
	for _, name := range names {
		own = append(own, bound{name, pick(m.maker, allKinds)})
	}
	inner := slices.Concat(in, own)
	x = let(m.exp(kind, room-1, inner))
	for i, b := range own {
		// Mostly those ahead alone are named, lest too much needs itself.
		seen := inner
		if m.Intn(4) > 0 {
			seen = slices.DeleteFunc(slices.Clone(inner), func(o bound) bool { return slices.Contains(names[i:], o.name) })
		}
		x.Binds = append(x.Binds, api.Bind{Name: b.name, Form: m.form(b.kind, m.Intn(room), seen)})
	}
	return x
}

func (m sensible) choice(kind string, room int, in []bound) api.Exp {
	of := pick(m.maker, allKinds)
	x := choice(m.exp(of, m.Intn(room), in))
	body := func(more ...bound) api.Exp { return m.exp(kind, m.Intn(room), slices.Concat(in, more)) }
	if of == aList {
		names := m.unlike(2)
		x.Alts = append(x.Alts, onCon("Cons", body(bound{names[0], aNum}, bound{names[1], aList}), names...))
		if m.Intn(3) > 0 {
			x.Alts = append(x.Alts, onCon("Nil", body()))
		}
	}
	if of == aNum {
		for n := range m.Intn(3) {
			x.Alts = append(x.Alts, onInt(int64(n), body()))
		}
	}
	if len(x.Alts) == 0 || m.Intn(3) > 0 {
		name := m.unlike(1)[0]
		x.Alts = append(x.Alts, onAll(name, body(bound{name, of})))
	}
	return x
}

func (m sensible) program() api.Program {
	p := api.Program{Datas: []api.Data{{Name: "Nil"}, {Name: "Cons", Arity: 2}}}
	in := []bound{{"main", pick(m.maker, allKinds)}}
	for i := range 2 + m.Intn(4) {
		in = append(in, bound{fmt.Sprint("g", i), pick(m.maker, allKinds)})
	}
	for _, b := range in {
		p.Binds = append(p.Binds, api.Bind{Name: b.name, Form: m.form(b.kind, 1+m.Intn(5), in)})
	}
	return p
}

func TestRandomMeanings(t *testing.T) {
	m := sensible{newMaker(6)}
	seen := map[string]int{}
	for range 2500 {
		p := m.program()
		byModel(t, p)
		for _, b := range p.Binds {
			a := asked{b.Name, nil, 1 + m.Intn(4)}
			for range len(b.Form.Args) {
				a.with = append(a.with, int64(m.Intn(9)-1))
			}
			o := means(t, p, a)
			seen[fmt.Sprint("outcome ", o.Kind, " ", int(o.Err))]++
			seen[fmt.Sprint("tree ", o.Tree.Kind, " ", o.Tree.Name)]++
		}
	}
	for _, what := range []string{"outcome 1 0", "outcome 2 0", "outcome 3 40", "outcome 3 41", "outcome 3 42", "outcome 3 43", "tree 1 ", "tree 2 Nil", "tree 2 Cons", "tree 3 ", "tree 4 "} {
		if seen[what] < 50 {
			t.Errorf("%s: %d: too few", what, seen[what])
		}
	}
}

func shown(o api.Outcome) string {
	switch o.Kind {
	case api.OValue:
		return shownTree(o.Tree)
	case api.OLoop:
		return "loop"
	case api.OError:
		return fmt.Sprint("fail ", int(o.Err))
	}
	return "fuel"
}

func shownTree(t api.Tree) string {
	switch t.Kind {
	case api.SInt:
		return fmt.Sprint(t.N)
	case api.SFun:
		return "<fun>"
	case api.SCut:
		return "_"
	}
	s := "(" + map[int]string{api.SCon: t.Name, api.SRef: "ref", api.SArr: "arr"}[t.Kind]
	for _, kid := range t.Kids {
		s += " " + shownTree(kid)
	}
	return s + ")"
}
