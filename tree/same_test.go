package tree_test

import (
	"math"
	"math/rand"
	"reflect"
	"slices"
	"strings"
	"testing"

	"midden/api"
	"midden/tree"
)

// Numbers of int that are no kind of expressions or alternatives; the lower half of some is one.
var noKinds = []int{math.MinInt, math.MinInt + 1, -1 << 32, -1<<32 + 1, -1 << 31, -6, -5, -3, -1, 0, 7, 8, 255, 257, 1<<16 + 3, 1<<31 - 1, 1 << 32, 1<<32 + 1, 1<<32 + 5, 1<<32 + 6, math.MaxInt - 1, math.MaxInt}

var expKinds = []int{api.XApp, api.XCon, api.XPrim, api.XInt, api.XLet, api.XCase}
var altKinds = []int{api.ACon, api.AInt, api.AAll}

// Which fields an expression's kind names, and an alternative's.
var (
	expNames = map[int]string{
		api.XApp: "Name Atoms", api.XCon: "Name Atoms", api.XPrim: "Name Atoms", api.XInt: "N", api.XLet: "Binds Kids", api.XCase: "Kids Alts",
	}
	altNames = map[int]string{api.ACon: "Name Vars Body", api.AInt: "N Body", api.AAll: "Name Body"}
)

// counted is a program with all that does not count turned into nothing, so that programs that are the same are equal.
func counted(p api.Program) api.Program {
	var out api.Program
	for _, d := range p.Datas {
		out.Datas = append(out.Datas, api.Data{Name: d.Name, Arity: d.Arity})
	}
	out.Binds = countedBinds(p.Binds)
	return out
}

func countedBinds(l []api.Bind) []api.Bind {
	var out []api.Bind
	for _, b := range l {
		out = append(out, api.Bind{Name: b.Name, Form: api.Form{Args: append([]string(nil), b.Form.Args...), Body: countedExp(b.Form.Body)}})
	}
	return out
}

func countedExp(x api.Exp) api.Exp {
	out := api.Exp{Kind: x.Kind}
	for _, field := range strings.Fields(expNames[x.Kind]) {
		switch field {
		case "Name":
			out.Name = x.Name
		case "N":
			out.N = x.N
		case "Atoms":
			for _, a := range x.Atoms {
				if a.Name != "" {
					a.N = 0
				}
				out.Atoms = append(out.Atoms, a)
			}
		case "Binds":
			out.Binds = countedBinds(x.Binds)
		case "Kids":
			if len(x.Kids) > 0 {
				out.Kids = []api.Exp{countedExp(x.Kids[0])}
			}
		case "Alts":
			for _, a := range x.Alts {
				out.Alts = append(out.Alts, countedAlt(a))
			}
		}
	}
	return out
}

func countedAlt(a api.Alt) api.Alt {
	out := api.Alt{Kind: a.Kind}
	for _, field := range strings.Fields(altNames[a.Kind]) {
		switch field {
		case "Name":
			out.Name = a.Name
		case "N":
			out.N = a.N
		case "Vars":
			out.Vars = append([]string(nil), a.Vars...)
		case "Body":
			out.Body = countedExp(a.Body)
		}
	}
	return out
}

// wantSame asks both ways round, and by itself.
func wantSame(t *testing.T, a, b api.Program, want bool) {
	t.Helper()
	if tree.Same(a, b) != want || tree.Same(b, a) != want {
		t.Errorf("Same of %+v and %+v: not %v", a, b, want)
	}
	if !tree.Same(a, a) || !tree.Same(b, b) {
		t.Errorf("%+v or %+v is not the same as itself", a, b)
	}
}

// fullExp is an expression with something in all fields.
func fullExp(kind int) api.Exp {
	return api.Exp{
		Kind: kind, At: 1, Name: "a", N: 2,
		Atoms: []api.Atom{named("b"), atom(3)},
		Binds: []api.Bind{bind(4, "c", num(5, 6), "d")},
		Kids:  []api.Exp{num(7, 8)},
		Alts:  []api.Alt{fullAlt(api.ACon)},
	}
}

func fullAlt(kind int) api.Alt {
	return api.Alt{Kind: kind, At: 9, Name: "E", N: 10, Vars: []string{"g", "h"}, Body: num(11, 12)}
}

// Each field turned into something else.
var expChanges = map[string][]func(x *api.Exp){
	"At": {
		func(x *api.Exp) { x.At = 0 }, func(x *api.Exp) { x.At = math.MinInt }, func(x *api.Exp) { x.At = math.MaxInt },
	},
	"Name": {
		func(x *api.Exp) { x.Name = "" }, func(x *api.Exp) { x.Name = "A" }, func(x *api.Exp) { x.Name = "aa" }, func(x *api.Exp) { x.Name = "a\x00" },
	},
	"N": {
		func(x *api.Exp) { x.N = 0 }, func(x *api.Exp) { x.N = -2 }, func(x *api.Exp) { x.N = math.MaxInt64 }, func(x *api.Exp) { x.N = 1<<32 + 2 },
	},
	"Atoms": {
		func(x *api.Exp) { x.Atoms = nil },
		func(x *api.Exp) { x.Atoms = x.Atoms[:1] },
		func(x *api.Exp) { x.Atoms = append(slices.Clone(x.Atoms), api.Atom{}) },
		func(x *api.Exp) { x.Atoms = []api.Atom{atom(3), named("b")} },
		func(x *api.Exp) { x.Atoms = []api.Atom{named("b"), atom(4)} },
		func(x *api.Exp) { x.Atoms = []api.Atom{named("B"), atom(3)} },
		func(x *api.Exp) { x.Atoms = []api.Atom{named("b"), {Name: "b", N: 3}} },
	},
	"Binds": {
		func(x *api.Exp) { x.Binds = nil },
		func(x *api.Exp) { x.Binds = append(slices.Clone(x.Binds), x.Binds[0]) },
		func(x *api.Exp) { x.Binds = []api.Bind{bind(4, "C", num(5, 6), "d")} },
		func(x *api.Exp) { x.Binds = []api.Bind{bind(4, "c", num(5, 7), "d")} },
		func(x *api.Exp) { x.Binds = []api.Bind{bind(4, "c", num(5, 6), "D")} },
		func(x *api.Exp) { x.Binds = []api.Bind{bind(4, "c", num(5, 6))} },
		func(x *api.Exp) { x.Binds = []api.Bind{bind(4, "c", num(5, 6), "d", "d")} },
	},
	"Kids": {
		func(x *api.Exp) { x.Kids = nil },
		func(x *api.Exp) { x.Kids = []api.Exp{num(7, 9)} },
		func(x *api.Exp) { x.Kids = []api.Exp{app(7, "x")} },
		func(x *api.Exp) { x.Kids = []api.Exp{{}} },
		func(x *api.Exp) { x.Kids = []api.Exp{num(7, 9), num(7, 8)} },
	},
	"Alts": {
		func(x *api.Exp) { x.Alts = nil },
		func(x *api.Exp) { x.Alts = append(slices.Clone(x.Alts), x.Alts[0]) },
		func(x *api.Exp) { x.Alts = []api.Alt{fullAlt(api.AInt)} },
		func(x *api.Exp) { x.Alts = []api.Alt{fullAlt(0)} },
	},
}

var altChanges = map[string][]func(a *api.Alt){
	"At": {
		func(a *api.Alt) { a.At = 0 }, func(a *api.Alt) { a.At = math.MinInt }, func(a *api.Alt) { a.At = math.MaxInt },
	},
	"Name": {
		func(a *api.Alt) { a.Name = "" }, func(a *api.Alt) { a.Name = "e" }, func(a *api.Alt) { a.Name = "EE" },
	},
	"N": {
		func(a *api.Alt) { a.N = 0 }, func(a *api.Alt) { a.N = -10 }, func(a *api.Alt) { a.N = math.MinInt64 }, func(a *api.Alt) { a.N = 1<<32 + 10 },
	},
	"Vars": {
		func(a *api.Alt) { a.Vars = nil }, func(a *api.Alt) { a.Vars = []string{"g"} }, func(a *api.Alt) { a.Vars = []string{"h", "g"} },
		func(a *api.Alt) { a.Vars = []string{"g", "h", ""} }, func(a *api.Alt) { a.Vars = []string{"gh"} },
	},
	"Body": {
		func(a *api.Alt) { a.Body = api.Exp{} }, func(a *api.Alt) { a.Body = num(11, 13) }, func(a *api.Alt) { a.Body = app(11, "x") },
	},
}

// places puts an expression wherever one may stand in a program.
var places = []func(x api.Exp) api.Program{
	of,
	func(x api.Exp) api.Program {
		return api.Program{Datas: []api.Data{{Name: "C"}}, Binds: []api.Bind{bind(0, "a", num(0, 1)), bind(0, "b", x, "c")}}
	},
	func(x api.Exp) api.Program { return of(let(0, x, bind(0, "a", num(0, 1)))) },
	func(x api.Exp) api.Program {
		return of(let(0, num(0, 1), bind(0, "a", num(0, 1)), bind(0, "a", x)))
	},
	func(x api.Exp) api.Program { return of(choose(0, x, fullAlt(api.AAll))) },
	func(x api.Exp) api.Program {
		return of(choose(0, num(0, 1), fullAlt(api.AInt), api.Alt{Kind: api.ACon, Name: "C", Body: x}))
	},
	func(x api.Exp) api.Program {
		return of(choose(0, num(0, 1), api.Alt{Kind: api.AInt, N: 1, Body: x}, fullAlt(api.AInt)))
	},
	func(x api.Exp) api.Program { return of(choose(0, num(0, 1), api.Alt{Kind: api.AAll, Body: x})) },
	func(x api.Exp) api.Program { return of(let(0, choose(0, let(0, x)))) },
}

// P6.2 (Same).

func TestSameFieldByField(t *testing.T) {
	for _, kind := range slices.Concat(expKinds, noKinds) {
		for field, changes := range expChanges {
			counts := slices.Contains(strings.Fields(expNames[kind]), field)
			for _, change := range changes {
				x, y := fullExp(kind), fullExp(kind)
				change(&y)
				for _, place := range places {
					wantSame(t, place(x), place(y), !counts)
				}
			}
		}
	}
	for _, kind := range slices.Concat(altKinds, noKinds, []int{4, 5, 6}) {
		for field, changes := range altChanges {
			counts := slices.Contains(strings.Fields(altNames[kind]), field)
			for _, change := range changes {
				a, b := fullAlt(kind), fullAlt(kind)
				change(&b)
				for _, place := range places {
					wantSame(t, place(choose(0, num(0, 1), a)), place(choose(0, num(0, 1), b)), !counts)
					wantSame(t, place(choose(0, num(0, 1), fullAlt(2), a)), place(choose(0, num(0, 1), fullAlt(2), b)), !counts)
				}
			}
		}
	}
}

// Unlike kinds are unlike, whatever they name: those that there are, and those that there are not.
func TestSameKinds(t *testing.T) {
	all := slices.Concat(expKinds, noKinds)
	for _, k := range all {
		for _, l := range all {
			wantSame(t, of(api.Exp{Kind: k}), of(api.Exp{Kind: l}), k == l)
			wantSame(t, of(fullExp(k)), of(fullExp(l)), k == l)
			wantSame(t, of(choose(0, num(0, 1), api.Alt{Kind: k})), of(choose(0, num(0, 1), api.Alt{Kind: l})), k == l)
			wantSame(t, of(choose(0, num(0, 1), fullAlt(k))), of(choose(0, num(0, 1), fullAlt(l))), k == l)
		}
	}
}

func TestSameAtoms(t *testing.T) {
	for _, kind := range []int{api.XApp, api.XCon, api.XPrim} {
		with := func(a ...api.Atom) api.Program { return of(api.Exp{Kind: kind, Name: "x", Atoms: a}) }
		wantSame(t, with(api.Atom{Name: "a", N: 1}), with(api.Atom{Name: "a", N: 2}), true)
		wantSame(t, with(api.Atom{Name: "a", N: math.MinInt64}), with(api.Atom{Name: "a"}), true)
		wantSame(t, with(api.Atom{Name: "a", N: 1}), with(api.Atom{Name: "b", N: 1}), false)
		wantSame(t, with(api.Atom{N: 1}), with(api.Atom{N: 1}), true)
		wantSame(t, with(api.Atom{N: 1}), with(api.Atom{N: 2}), false)
		wantSame(t, with(api.Atom{N: math.MinInt64}), with(api.Atom{N: math.MaxInt64}), false)
		wantSame(t, with(api.Atom{N: 1}), with(api.Atom{Name: "a", N: 1}), false)
		wantSame(t, with(api.Atom{}), with(), false)
		wantSame(t, with(named("a"), atom(1)), with(named("a"), atom(1)), true)
		wantSame(t, with(named("a"), atom(1)), with(atom(1), named("a")), false)
		wantSame(t, with([]api.Atom{}...), with(), true)
	}
}

// The first of the Kids counts, and whether there is one.
func TestSameKids(t *testing.T) {
	for _, kind := range []int{api.XLet, api.XCase} {
		with := func(kids ...api.Exp) api.Program { return of(api.Exp{Kind: kind, Kids: kids}) }
		wantSame(t, with(), with([]api.Exp{}...), true)
		wantSame(t, with(), with(num(0, 1)), false)
		wantSame(t, with(), with(api.Exp{}), false)
		wantSame(t, with(), with(num(0, 1), num(0, 2)), false)
		wantSame(t, with(num(0, 1)), with(num(9, 1)), true)
		wantSame(t, with(num(0, 1)), with(num(0, 2)), false)
		wantSame(t, with(num(0, 1)), with(num(0, 1), num(0, 2)), true)
		wantSame(t, with(num(0, 1), num(0, 3)), with(num(0, 1), num(0, 2)), true)
		wantSame(t, with(num(0, 1), num(0, 2)), with(num(0, 2), num(0, 2)), false)
		wantSame(t, with(num(0, 1), num(0, 2), num(0, 3)), with(num(0, 1)), true)
	}
}

func TestSamePrograms(t *testing.T) {
	d := func(name string, arity, at int) api.Data { return api.Data{Name: name, Arity: arity, At: at} }
	with := func(l ...api.Data) api.Program { return api.Program{Datas: l} }
	wantSame(t, api.Program{}, api.Program{Datas: []api.Data{}, Binds: []api.Bind{}}, true)
	wantSame(t, with(d("C", 1, 2)), with(d("C", 1, 3)), true)
	wantSame(t, with(d("C", 1, math.MinInt)), with(d("C", 1, math.MaxInt)), true)
	wantSame(t, with(d("C", 1, 2)), with(d("D", 1, 2)), false)
	wantSame(t, with(d("C", 1, 2)), with(d("C", 2, 2)), false)
	wantSame(t, with(d("C", math.MinInt, 2)), with(d("C", math.MaxInt, 2)), false)
	wantSame(t, with(d("C", 1, 2)), with(d("C", 1<<32+1, 2)), false)
	wantSame(t, with(d("C", 1, 2)), with(), false)
	wantSame(t, with(d("C", 1, 2)), with(d("C", 1, 2), d("C", 1, 2)), false)
	wantSame(t, with(d("C", 1, 2), d("D", 1, 2)), with(d("D", 1, 2), d("C", 1, 2)), false)
	one := func(l ...api.Bind) api.Program { return api.Program{Binds: l} }
	wantSame(t, one(bind(0, "f", num(0, 1))), one(bind(5, "f", num(6, 1))), true)
	wantSame(t, one(bind(0, "f", num(0, 1))), one(bind(0, "g", num(0, 1))), false)
	wantSame(t, one(bind(0, "f", num(0, 1))), one(bind(0, "f", num(0, 2))), false)
	wantSame(t, one(bind(0, "f", num(0, 1))), one(), false)
	wantSame(t, one(bind(0, "f", num(0, 1))), one(bind(0, "f", num(0, 1)), bind(0, "f", num(0, 1))), false)
	wantSame(t, one(bind(0, "f", num(0, 1)), bind(0, "g", num(0, 1))), one(bind(0, "g", num(0, 1)), bind(0, "f", num(0, 1))), false)
	wantSame(t, one(bind(0, "f", num(0, 1), "x")), one(bind(0, "f", num(0, 1))), false)
	wantSame(t, one(bind(0, "f", num(0, 1), "x")), one(bind(0, "f", num(0, 1), "y")), false)
	wantSame(t, one(bind(0, "f", num(0, 1), "x", "y")), one(bind(0, "f", num(0, 1), "y", "x")), false)
	wantSame(t, one(bind(0, "f", num(0, 1), "xy")), one(bind(0, "f", num(0, 1), "x", "y")), false)
	wantSame(t, one(bind(0, "f", num(0, 1), []string{}...)), one(bind(0, "f", num(0, 1))), true)
	wantSame(t, api.Program{Datas: []api.Data{d("C", 1, 1)}, Binds: []api.Bind{bind(0, "f", num(0, 1))}}, with(d("C", 1, 1)), false)
}

// Parsed texts are the same just if their tokens are, but for parentheses.
func TestSameOfTexts(t *testing.T) {
	texts := []string{
		"f = x;", "f = X;", "f = #x;", "f = x 1;", "f = x a;", "f = 1;", "f = 2;", "g = 1;", `f = \ x -> x;`, "f = 1; f = 1;",
		"data C 1; f = 1;", "data C 2; f = 1;", "f = let { a = 1; } in a;", "f = let { b = 1; } in a;", "f = let { a = 1; } in b;",
		"f = let { a = 1; a = 1; } in a;", "f = case 1 of { x -> x; };", "f = case 2 of { x -> x; };", "f = case 1 of { y -> x; };",
		"f = case 1 of { X -> x; };", "f = case 1 of { X x -> x; };", "f = case 1 of { 1 -> x; };", "f = case 1 of { 1 -> x; x -> x; };", "",
	}
	for i, s := range texts {
		for j, r := range texts {
			p, _, _ := tree.Parse(s)
			q, _, _ := tree.Parse(" " + strings.ReplaceAll(r, "= 1;", "= ((1));"))
			wantSame(t, p, q, i == j)
		}
	}
}

// junk makes random programs, with something or other in all fields, of few kinds, names and numbers, so that some are
// the same.
type junk struct{ *rand.Rand }

func (j junk) text() string   { return []string{"", "a", "b"}[j.Intn(3)] }
func (j junk) number() int64  { return []int64{0, 1, math.MinInt64}[j.Intn(3)] }
func (j junk) place() int     { return []int{0, 1, math.MinInt, math.MaxInt}[j.Intn(4)] }
func (j junk) kind(n int) int { return []int{1, 2, 3, 4, 5, 6, 5, 6, 1 << 32, -1}[j.Intn(n)] }

func many[T any](j junk, room int, one func() T) []T {
	var l []T
	if j.Intn(2) == 0 {
		l = []T{}
	}
	for range j.Intn(room) {
		l = append(l, one())
	}
	return l
}

func (j junk) atom() api.Atom { return api.Atom{Name: j.text(), N: j.number()} }

func (j junk) exp(room int) api.Exp {
	x := api.Exp{Kind: j.kind(10), At: j.place(), Name: j.text(), N: j.number(), Atoms: many(j, 3, j.atom)}
	if room > 0 {
		x.Binds = many(j, 3, func() api.Bind { return j.bind(room - 1) })
		x.Kids = many(j, 3, func() api.Exp { return j.exp(room - 1) })
		x.Alts = many(j, 3, func() api.Alt {
			return api.Alt{Kind: j.kind(4), At: j.place(), Name: j.text(), N: j.number(), Vars: many(j, 3, j.text), Body: j.exp(room - 1)}
		})
	}
	return x
}

func (j junk) bind(room int) api.Bind {
	return api.Bind{Name: j.text(), At: j.place(), Form: api.Form{Args: many(j, 2, j.text), Body: j.exp(room)}}
}

func (j junk) program(room int) api.Program {
	return api.Program{
		Datas: many(j, 2, func() api.Data { return api.Data{Name: j.text(), Arity: j.place(), At: j.place()} }),
		Binds: many(j, 3, func() api.Bind { return j.bind(room) }),
	}
}

// blur is the program with other things in all that does not count.
func (j junk) blur(p api.Program) api.Program {
	out := plain(p)
	for i := range out.Datas {
		out.Datas[i].At = j.place()
	}
	j.blurBinds(out.Binds)
	return out
}

func (j junk) blurBinds(l []api.Bind) {
	for i := range l {
		l[i].At = j.place()
		j.blurExp(&l[i].Form.Body)
	}
}

func (j junk) blurExp(x *api.Exp) {
	out := j.exp(1) // what the kind names is taken from x, all else stays as it is here
	out.Kind = x.Kind
	for _, field := range strings.Fields(expNames[x.Kind]) {
		switch field {
		case "Name":
			out.Name = x.Name
		case "N":
			out.N = x.N
		case "Atoms":
			out.Atoms = slices.Clone(x.Atoms)
			for i := range out.Atoms {
				if out.Atoms[i].Name != "" {
					out.Atoms[i].N = j.number()
				}
			}
		case "Binds":
			out.Binds = x.Binds
			j.blurBinds(out.Binds)
		case "Kids":
			kids := x.Kids[:min(1, len(x.Kids)):min(1, len(x.Kids))]
			if len(kids) > 0 {
				j.blurExp(&kids[0])
				kids = append(kids, out.Kids...)
			}
			out.Kids = kids
		case "Alts":
			out.Alts = x.Alts
			for i := range out.Alts {
				j.blurAlt(&out.Alts[i])
			}
		}
	}
	*x = out
}

func (j junk) blurAlt(a *api.Alt) {
	a.At = j.place()
	switch a.Kind {
	case api.ACon:
		a.N = j.number()
	case api.AInt:
		a.Name, a.Vars = j.text(), many(j, 3, j.text)
	case api.AAll:
		a.N, a.Vars = j.number(), many(j, 3, j.text)
	default:
		a.N, a.Name, a.Vars, a.Body = j.number(), j.text(), many(j, 3, j.text), j.exp(1)
		return
	}
	j.blurExp(&a.Body)
}

// nudge puts something else into one field somewhere below, which may count or not, and may be as before.
func (j junk) nudge(x *api.Exp) {
	if len(x.Kids) > 0 && j.Intn(3) == 0 {
		j.nudge(&x.Kids[j.Intn(len(x.Kids))])
		return
	}
	if len(x.Alts) > 0 && j.Intn(3) == 0 {
		j.nudgeAlt(&x.Alts[j.Intn(len(x.Alts))])
		return
	}
	if len(x.Binds) > 0 && j.Intn(3) == 0 {
		j.nudge(&x.Binds[j.Intn(len(x.Binds))].Form.Body)
		return
	}
	other := j.exp(1)
	switch j.Intn(7) {
	case 0:
		x.Kind = other.Kind
	case 1:
		x.Name = other.Name
	case 2:
		x.N = other.N
	case 3:
		x.Atoms = other.Atoms
	case 4:
		x.Binds = other.Binds
	case 5:
		x.Kids = other.Kids
	case 6:
		x.Alts = other.Alts
	}
}

func (j junk) nudgeAlt(a *api.Alt) {
	switch j.Intn(5) {
	case 0:
		a.Kind = j.kind(4)
	case 1:
		a.Name = j.text()
	case 2:
		a.N = j.number()
	case 3:
		a.Vars = many(j, 3, j.text)
	case 4:
		j.nudge(&a.Body)
	}
}

func TestSameOfJunk(t *testing.T) {
	j := junk{rand.New(rand.NewSource(4))}
	alike, unlike := 0, 0
	for range 40000 {
		p := j.program(j.Intn(3))
		q := j.blur(p)
		if !tree.Same(p, q) || !tree.Same(q, p) {
			t.Fatalf("not the same: %+v and %+v", p, q)
		}
		if len(q.Binds) == 0 {
			continue
		}
		j.nudge(&q.Binds[j.Intn(len(q.Binds))].Form.Body)
		want := reflect.DeepEqual(counted(p), counted(q))
		if want {
			alike++
		} else {
			unlike++
		}
		if tree.Same(p, q) != want || tree.Same(q, p) != want {
			t.Fatalf("Same of %+v and %+v: not %v", p, q, want)
		}
		r := j.program(j.Intn(3))
		if tree.Same(p, r) != reflect.DeepEqual(counted(p), counted(r)) {
			t.Fatalf("Same of %+v and %+v", p, r)
		}
	}
	if alike < 3000 || unlike < 3000 {
		t.Errorf("%d were the same, %d were not: too few", alike, unlike)
	}
}

// P6.3 (Size, Deep).

// modelSize and modelDeep go over what counts, and nothing else.
func modelSize(x api.Exp) int {
	n := 1
	for _, b := range x.Binds {
		n += modelSize(b.Form.Body)
	}
	for _, k := range x.Kids {
		n += modelSize(k)
	}
	for _, a := range x.Alts {
		if altNames[a.Kind] != "" {
			n += modelSize(a.Body)
		}
	}
	return n
}

func modelDeep(x api.Exp) int {
	deepest := []int{0}
	for _, b := range x.Binds {
		deepest = append(deepest, modelDeep(b.Form.Body))
	}
	for _, k := range x.Kids {
		deepest = append(deepest, modelDeep(k))
	}
	for _, a := range x.Alts {
		if altNames[a.Kind] != "" {
			deepest = append(deepest, modelDeep(a.Body))
		}
	}
	return 1 + slices.Max(deepest)
}

func wantCounts(t *testing.T, x api.Exp, size, deep int) {
	t.Helper()
	if n := tree.Deep(x); n != deep {
		t.Errorf("Deep of %+v: %d, want %d", x, n, deep)
	}
	if n := tree.Size(of(x)); n != size {
		t.Errorf("Size of %+v: %d, want %d", x, n, size)
	}
}

func TestSizeAndDeepOfEachKind(t *testing.T) {
	one := num(0, 1)
	three := let(0, let(0, one)) // 3 deep
	for _, x := range []api.Exp{one, app(0, "x"), app(0, "x", atom(1), named("y")), con(0, "C", atom(1)), prim(0, "#p", atom(1), atom(2)), {}} {
		wantCounts(t, x, 1, 1)
	}
	for _, kind := range slices.Concat(noKinds, []int{api.XApp, api.XCon, api.XPrim, api.XInt}) { // Kids and all that do not count
		wantCounts(t, fullExp(kind), 1, 1)
	}
	wantCounts(t, let(0, one, bind(0, "a", one)), 3, 2)
	wantCounts(t, let(0, one, bind(0, "a", one), bind(0, "b", one, "x", "y")), 4, 2)
	wantCounts(t, let(0, one, bind(0, "a", one), bind(0, "b", three)), 6, 4)
	wantCounts(t, let(0, three, bind(0, "a", one)), 5, 4)
	wantCounts(t, let(0, one, bind(0, "a", three), bind(0, "b", one)), 6, 4)
	wantCounts(t, choose(0, one, fullAlt(api.ACon)), 3, 2)
	wantCounts(t, choose(0, one, fullAlt(api.ACon), fullAlt(api.AInt), fullAlt(api.AAll)), 5, 2)
	wantCounts(t, choose(0, three, fullAlt(api.AInt)), 5, 4)
	for _, kind := range altKinds {
		wantCounts(t, choose(0, one, api.Alt{Kind: kind, Body: three}), 5, 4)
		wantCounts(t, choose(0, one, api.Alt{Kind: kind, Body: three}, fullAlt(api.AAll)), 6, 4)
	}
	// No text has these.
	wantCounts(t, api.Exp{Kind: api.XLet}, 1, 1)
	wantCounts(t, api.Exp{Kind: api.XCase}, 1, 1)
	wantCounts(t, let(0, one), 2, 2)
	wantCounts(t, choose(0, one), 2, 2)
	wantCounts(t, api.Exp{Kind: api.XLet, Binds: []api.Bind{bind(0, "a", one)}}, 2, 2)
	wantCounts(t, api.Exp{Kind: api.XCase, Alts: []api.Alt{fullAlt(api.AInt)}}, 2, 2)
	wantCounts(t, api.Exp{Kind: api.XLet, Binds: []api.Bind{{}}, Kids: []api.Exp{{}}}, 3, 2)
	for _, kind := range []int{api.XLet, api.XCase} { // the first of the Kids is the one that the kind names
		wantCounts(t, api.Exp{Kind: kind, Kids: []api.Exp{one, three}}, 2, 2)
		wantCounts(t, api.Exp{Kind: kind, Kids: []api.Exp{three, one, one}}, 4, 4)
	}
	for _, kind := range noKinds { // names nothing, its body neither
		wantCounts(t, choose(0, one, api.Alt{Kind: kind, Body: three}), 2, 2)
	}
	wantCounts(t, api.Exp{Kind: api.XLet, Kids: []api.Exp{one}, Alts: []api.Alt{fullAlt(api.AInt)}}, 2, 2)
	wantCounts(t, api.Exp{Kind: api.XCase, Kids: []api.Exp{one}, Binds: []api.Bind{bind(0, "a", three)}}, 2, 2)
}

func TestSizeOfPrograms(t *testing.T) {
	for s, want := range map[string]int{
		"": 0, "data C 1;": 0, "f = 1;": 1, "f = (((1)));": 1, "f = x 1 y 2;": 1, `f = \ x y -> x;`: 1, "f = 1; g = 2; h = x;": 3,
		"data C 1; f = let { a = 1; b = (2); } in a;":                         4,
		"f = case x of { 1 -> 2; C y -> 3; };":                                4,
		"f = case x of { 1 -> let { a = 1; } in a; }; g = 1;":                 6,
		`data C 1; f = \ x -> case x of { C y -> y; 3 -> g x 1; z -> C z; };`: 5,
	} {
		p, _, _ := tree.Parse(s)
		if n := tree.Size(p); n != want {
			t.Errorf("Size of %q: %d, want %d", s, n, want)
		}
	}
	if n := tree.Size(api.Program{Binds: []api.Bind{{}, {}}}); n != 2 {
		t.Errorf("Size of two empty binds: %d", n)
	}
}

func TestSizeAndDeepOfJunk(t *testing.T) {
	j := junk{rand.New(rand.NewSource(5))}
	for range 20000 {
		p := j.program(j.Intn(4))
		n := 0
		for _, b := range p.Binds {
			x := countedExp(b.Form.Body)
			n += modelSize(x)
			if deep := tree.Deep(b.Form.Body); deep != modelDeep(x) {
				t.Fatalf("Deep of %+v: %d, want %d", b.Form.Body, deep, modelDeep(x))
			}
		}
		if size := tree.Size(p); size != n {
			t.Fatalf("Size of %+v: %d, want %d", p, size, n)
		}
		if b := j.blur(p); tree.Size(b) != n {
			t.Fatalf("Size of %+v: %d, of one that is the same: %d", p, n, tree.Size(b))
		}
	}
}

// R1: the greatest trees of the bound, 2^16 parts within one another, by each way down.
func TestGreatTrees(t *testing.T) {
	const n = 1 << 15 // an expression in a list is two parts
	for way := range 4 {
		x, y := num(0, 1), num(0, 2)
		for range n - 1 {
			x, y = down(way, x), down(way, y)
		}
		if deep := tree.Deep(x); deep != n {
			t.Errorf("way %d: Deep: %d", way, deep)
		}
		if size := tree.Size(of(x)); size < n {
			t.Errorf("way %d: Size: %d", way, size)
		}
		if !tree.Same(of(x), of(x)) || tree.Same(of(x), of(y)) {
			t.Errorf("way %d: Same", way)
		}
	}
	wide := choose(0, num(0, 1))
	wide.Alts = slices.Repeat([]api.Alt{fullAlt(api.AInt)}, 1<<18)
	wantCounts(t, wide, 2+1<<18, 2)
}

func down(way int, x api.Exp) api.Exp {
	switch way {
	case 0:
		return let(0, x, bind(0, "a", num(0, 1)))
	case 1:
		return let(0, num(0, 1), bind(0, "a", x))
	case 2:
		return choose(0, x, fullAlt(api.AInt))
	}
	return choose(0, num(0, 1), api.Alt{Kind: api.AInt, Body: x})
}

// R3: what is handed in is left as it was, its spare room too.
func TestLeftAsItWas(t *testing.T) {
	j := junk{rand.New(rand.NewSource(6))}
	for range 3000 {
		p, q := j.program(2), j.program(2)
		wasP, wasQ := plain(p), plain(q)
		tree.Same(p, q)
		tree.Same(p, p)
		tree.Size(p)
		for _, b := range p.Binds {
			tree.Deep(b.Form.Body)
		}
		if !reflect.DeepEqual(plain(p), wasP) || !reflect.DeepEqual(plain(q), wasQ) {
			t.Fatalf("changed: %+v, %+v", wasP, wasQ)
		}
	}
	kids := []api.Exp{num(0, 1), num(0, 2), num(0, 3)}
	x := api.Exp{Kind: api.XLet, Kids: kids[:1], Binds: []api.Bind{bind(0, "a", num(0, 4))}}
	y := api.Exp{Kind: api.XCase, Kids: kids[:1], Alts: []api.Alt{fullAlt(api.AInt)}}
	for _, z := range []api.Exp{x, y} {
		tree.Deep(z)
		tree.Size(of(z))
		tree.Same(of(x), of(z))
	}
	if kids[1].N != 2 || kids[2].N != 3 {
		t.Errorf("spare room was written to: %v", kids)
	}
}
