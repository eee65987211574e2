package scope_test

import (
	"fmt"
	"math"
	"slices"
	"strings"
	"testing"

	"midden/api"
	"midden/scope"
)

// Short ways to write trees down, with their places.
func app(at int, name string, atoms ...api.Atom) api.Exp {
	return api.Exp{Kind: api.XApp, At: at, Name: name, Atoms: atoms}
}
func con(at int, name string, atoms ...api.Atom) api.Exp {
	return api.Exp{Kind: api.XCon, At: at, Name: name, Atoms: atoms}
}
func prim(at int, name string, atoms ...api.Atom) api.Exp {
	return api.Exp{Kind: api.XPrim, At: at, Name: name, Atoms: atoms}
}
func num(at int, n int64) api.Exp { return api.Exp{Kind: api.XInt, At: at, N: n} }
func let(at int, body api.Exp, binds ...api.Bind) api.Exp {
	return api.Exp{Kind: api.XLet, At: at, Binds: binds, Kids: []api.Exp{body}}
}
func choice(at int, asked api.Exp, alts ...api.Alt) api.Exp {
	return api.Exp{Kind: api.XCase, At: at, Kids: []api.Exp{asked}, Alts: alts}
}
func bind(at int, name string, body api.Exp, args ...string) api.Bind {
	return api.Bind{Name: name, At: at, Form: api.Form{Args: args, Body: body}}
}
func onCon(at int, name string, body api.Exp, vars ...string) api.Alt {
	return api.Alt{Kind: api.ACon, At: at, Name: name, Vars: vars, Body: body}
}
func onInt(at int, n int64, body api.Exp) api.Alt {
	return api.Alt{Kind: api.AInt, At: at, N: n, Body: body}
}
func onAll(at int, name string, body api.Exp) api.Alt {
	return api.Alt{Kind: api.AAll, At: at, Name: name, Body: body}
}
func named(name string) api.Atom                   { return api.Atom{Name: name} }
func atom(n int64) api.Atom                        { return api.Atom{N: n} }
func data(at int, name string, arity int) api.Data { return api.Data{Name: name, Arity: arity, At: at} }
func binds(l ...api.Bind) api.Program              { return api.Program{Binds: l} }

// of is a program with a main of that body, and datas C with 1 field and D with none.
func of(body api.Exp) api.Program {
	return api.Program{Datas: []api.Data{data(1, "C", 1), data(2, "D", 0)}, Binds: []api.Bind{bind(3, "main", body)}}
}

// Numbers of int that are no kind of expressions, nor of alternatives; the lower half of some is one.
var noKinds = []int{
	math.MinInt, math.MinInt + 1, math.MinInt + 4, -1 << 32, -1<<32 + 1, -1 << 31, -6, -5, -4, -3, -2, -1, 0, 7, 8, 255, 257, 260,
	1<<16 + 3, 1<<31 - 1, 1 << 32, 1<<32 + 1, 1<<32 + 4, 1<<32 + 5, 1<<32 + 6, math.MaxInt - 1, math.MaxInt,
}

var places = []int{math.MinInt, -1 << 40, -1, 0, 1, 7, 1 << 33, math.MaxInt}

// P9.1: texts, with a mark where the fault is.

type marked struct {
	s string
	e api.Errno
}

func holdTexts(t *testing.T, l []marked) {
	t.Helper()
	for _, c := range l {
		p, at := text(t, c.s)
		if (c.e == api.OK || c.e == api.ErrMain) == strings.Contains(c.s, "^") {
			t.Errorf("%s: a mark that is too many, or none", c.s)
		}
		agree(t, p, fault{at, c.e})
	}
}

func TestExamples(t *testing.T) {
	holdTexts(t, []marked{
		{"main = ^f 1;", api.ErrName},
		{"data C 1; main = ^C;", api.ErrArity},
		{"main = case 1 of { x -> 1; ^2 -> 1; };", api.ErrLast},
		{"f = 1;", api.ErrMain},
		{"main = ^g;", api.ErrName},
	})
	for s, at := range map[string]int{"main = f 1;": 7, "data C 1; main = C;": 17, "main = case 1 of { x -> 1; 2 -> 1; };": 27, "main = g;": 7} {
		p, _ := text(t, s)
		if place, e := scope.Check(p); place != at || e == api.OK {
			t.Errorf("%s: %d, %d; want %d", s, place, int(e), at)
		}
	}
}

// The programs of the document's examples of the whole are right.
func TestRightPrograms(t *testing.T) {
	holdTexts(t, []marked{
		{`main = \ n -> #add n 1;`, api.OK},
		{"main = let { x = #emit 7; } in #add x x;", api.OK},
		{"main = let { x = #add x 1; } in x;", api.OK},
		{`main = \ n -> #div 10 n;`, api.OK},
		{`data Nil 0; data Cons 2; from = \ n -> let { k = #add n 1; r = from k; } in Cons n r; main = from 1;`, api.OK},
		{"data P 2; main = let { p = P 1 q; q = case p of { P a b -> a; }; } in q;", api.OK},
		{`main = \ n -> case #ref n of { r -> case #set r 9 of { u -> #get r; }; };`, api.OK},
		{`f = \ a b -> a; main = f 1;`, api.OK},
		{"main = 1;", api.OK},
		{`spin = \ n -> spin n; main = spin 1;`, api.OK},
		{`data C 1; f = \ x -> case x of { C y -> y; 3 -> g x 1; z -> C z; }; g = \ a b -> a; main = f 2;`, api.OK},
	})
}

// Step 1.
func TestDatas(t *testing.T) {
	holdTexts(t, []marked{
		{"data C 0; data D 8; data E 1; data CC 1; main = 1;", api.OK},
		{"data ^C -1; main = 1;", api.ErrArity},
		{"data ^C 9; main = 1;", api.ErrArity},
		{"data C 8; data ^D 9; main = 1;", api.ErrArity},
		{"data ^C 9223372036854775807; main = 1;", api.ErrArity},
		{"data ^C -9223372036854775808; main = 1;", api.ErrArity},
		{"data C 1; data ^C 1; main = 1;", api.ErrTwice},
		{"data C 1; data D 1; data E 1; data ^D 2; main = 1;", api.ErrTwice},
		{"data C 1; data ^C 9; data D 9; main = 1;", api.ErrTwice},
		{"data ^C 9; data C 1; main = 1;", api.ErrArity},
		{"data C 1; data ^D 9; data C 1; main = 1;", api.ErrArity},
		{"data C 1; data D 2; data ^D 1; data C 1; main = 1;", api.ErrTwice},
		{"data ^C 9; f = g; f = g;", api.ErrArity},
	})
	for arity := -20; arity < 20; arity++ {
		for _, at := range places {
			w := fault{}
			if arity < 0 || arity > 8 {
				w = fault{at, api.ErrArity}
			}
			agree(t, api.Program{Datas: []api.Data{data(at, "C", arity)}, Binds: []api.Bind{bind(1, "main", num(2, 3))}}, w)
		}
	}
	for _, arity := range []int{math.MinInt, math.MinInt + 1, math.MinInt + 8, -1 << 32, 255, 256, 257, 1 << 31, 1 << 32, 1<<32 + 1, math.MaxInt - 1, math.MaxInt} {
		agree(t, api.Program{Datas: []api.Data{data(4, "D", 1), data(5, "C", arity)}, Binds: []api.Bind{bind(1, "main", num(2, 3))}}, fault{5, api.ErrArity})
	}
	// No text has these: a data's name is not asked for more than that it is its own.
	main := []api.Bind{bind(9, "main", num(9, 9))}
	agree(t, api.Program{Datas: []api.Data{data(1, "", 1)}, Binds: main}, fault{})
	agree(t, api.Program{Datas: []api.Data{data(1, "", 1), data(2, "", 1)}, Binds: main}, fault{2, api.ErrTwice})
	agree(t, api.Program{Datas: []api.Data{data(1, "main", 1), data(2, "C\x00", 1), data(3, "C", 1), data(4, "\xff", 1)}, Binds: main}, fault{})
}

// Step 2: names of all binds, ahead of all forms.
func TestBinds(t *testing.T) {
	holdTexts(t, []marked{
		{"main = 1; f = 1; g = 1; mainx = 1;", api.OK},
		{"main = 1; ^main = 1;", api.ErrTwice},
		{"f = 1; g = 1; ^f = 1; main = 1;", api.ErrTwice},
		{"f = 1; g = 1; ^g = 1; f = 1; main = 1;", api.ErrTwice},
		{"f = h; ^f = #no; main = 1;", api.ErrTwice},
		{"f = 1; ^f = 1;", api.ErrTwice},
		{"data F 0; main = 1; f = 1;", api.OK},
	})
	agree(t, binds(bind(4, "", num(5, 1))), fault{4, api.ErrName})
	agree(t, binds(bind(4, "", num(5, 1)), bind(6, "", num(7, 1))), fault{4, api.ErrName})
	agree(t, binds(bind(1, "main", app(2, "no")), bind(4, "", num(5, 1))), fault{4, api.ErrName})
	agree(t, binds(bind(1, "f", num(2, 1)), bind(4, "f", num(5, 1)), bind(6, "", num(7, 1))), fault{4, api.ErrTwice})
	agree(t, binds(bind(1, "f", num(2, 1)), bind(4, "", num(5, 1)), bind(6, "f", num(7, 1))), fault{4, api.ErrName})
	// No text has these: names that are no words are names.
	agree(t, binds(bind(1, "main", app(2, " ")), bind(3, " ", app(4, "#add")), bind(5, "#add", app(6, "C")), bind(7, "C", app(8, "\xff\x00")), bind(9, "\xff\x00", num(1, 1))), fault{})
	for _, at := range places {
		agree(t, binds(bind(3, "main", num(3, 1)), bind(at, "main", num(3, 1))), fault{at, api.ErrTwice})
		agree(t, binds(bind(3, "main", num(3, 1)), bind(at, "", num(3, 1))), fault{at, api.ErrName})
	}
}

// Step 3: forms.
func TestForms(t *testing.T) {
	holdTexts(t, []marked{
		{`main = \ a -> a;`, api.OK},
		{`main = \ a b c d e f g h -> h a b c d e f g h;`, api.OK},
		{`^main = \ a b c d e f g h i -> a;`, api.ErrArity},
		{`main = 1; ^f = \ a b c d e f g h i -> a;`, api.ErrArity},
		{`^main = \ a b c d e f g h a -> no;`, api.ErrArity},
		{`main = 1; ^f = \ a b a -> a;`, api.ErrTwice},
		{`main = 1; ^f = \ a a -> no;`, api.ErrTwice},
		{`main = 1; ^f = \ a b c d e f g g -> a;`, api.ErrTwice},
		{`main = \ main -> main; f = \ f main -> f main;`, api.OK},
		{`f = \ a -> a; g = \ a -> a; main = 1;`, api.OK},
		{`f = ^no; g = \ a a -> a; main = 1;`, api.ErrName},
		{`^f = \ a a -> a; g = no; main = 1;`, api.ErrTwice},
		{`main = let { f = \ a b c d e f g h -> h; } in f;`, api.OK},
		{`main = let { g = 1; ^f = \ a b c d e f g h i -> h; } in f;`, api.ErrArity},
		{`main = let { g = 1; ^f = \ a b b -> no; } in f;`, api.ErrTwice},
	})
	args := []string{"a", "b", "c", "d", "e", "f", "g", "h", "i", "j", "k"}
	for n := range len(args) {
		w := fault{}
		if n > 8 {
			w = fault{7, api.ErrArity}
		}
		agree(t, binds(bind(7, "main", num(8, 1), args[:n]...)), w)
		agree(t, binds(bind(1, "main", let(2, num(3, 1), bind(7, "f", num(8, 1), args[:n]...)))), w)
	}
	for place := range 8 { // an empty one anywhere, and ahead of two that are the same
		l := slices.Clone(args[:8])
		l[place] = ""
		agree(t, binds(bind(7, "main", app(9, "no"), l...)), fault{7, api.ErrName})
		l[(place+1)%8] = l[(place+2)%8]
		agree(t, binds(bind(7, "main", app(9, "no"), l...)), fault{7, api.ErrName})
		l = slices.Clone(args[:9])
		l[place] = ""
		agree(t, binds(bind(7, "main", app(9, "no"), l...)), fault{7, api.ErrArity})
		for other := range place {
			l = slices.Clone(args[:8])
			l[place] = l[other]
			agree(t, binds(bind(7, "main", num(9, 1), l...)), fault{7, api.ErrTwice})
			agree(t, binds(bind(1, "main", let(2, num(3, 1), bind(7, "f", app(9, "no"), l...)))), fault{7, api.ErrTwice})
		}
	}
	agree(t, binds(bind(7, "main", num(8, 1), "")), fault{7, api.ErrName})
	agree(t, binds(bind(7, "main", num(8, 1), "", "")), fault{7, api.ErrName})
	agree(t, binds(bind(7, "main", num(8, 1), []string{}...)), fault{})
	agree(t, binds(bind(1, "main", let(2, num(3, 1), bind(7, "f", num(8, 1), "a", "")))), fault{7, api.ErrName})
}

// Step 3: calls.
func TestCalls(t *testing.T) {
	holdTexts(t, []marked{
		{"main = main;", api.OK},
		{"main = f; f = main;", api.OK},
		{"main = main main 1 main -5;", api.OK},
		{"main = main 1 2 3 4 5 6 7 8;", api.OK},
		{"main = ^main 1 2 3 4 5 6 7 8 9;", api.ErrArity},
		{"main = ^main 1 2 3 4 5 6 7 8 no;", api.ErrArity},
		{"main = ^no 1 2 3 4 5 6 7 8 9;", api.ErrName},
		{"main = ^main no;", api.ErrName},
		{"main = ^main 1 2 3 4 5 6 7 no;", api.ErrName},
		{"main = ^main main no main 1;", api.ErrName},
		{"data C 1; main = C 1;", api.OK},
		{"data C 1; main = C main;", api.OK},
		{"data C 0; main = C;", api.OK},
		{"data C 8; main = C 1 2 main 4 5 6 7 8;", api.OK},
		{"data C 8; main = ^C 1 2 3 4 5 6 7;", api.ErrArity},
		{"data C 8; main = ^C 1 2 3 4 5 6 7 8 9;", api.ErrArity},
		{"data C 0; main = ^C 1;", api.ErrArity},
		{"data C 1; main = ^C no 1;", api.ErrArity},
		{"data C 1; main = ^C no;", api.ErrName},
		{"data C 2; main = ^C main no;", api.ErrName},
		{"data C 1; main = ^D no;", api.ErrCon},
		{"main = ^C;", api.ErrCon},
		{"data C 1; data D 2; main = D 1 2;", api.OK},
		{"data C 1; data D 2; main = ^D 1;", api.ErrArity},
		{"data D 2; data C 1; main = ^D 1;", api.ErrArity},
		{"main = #add main 1;", api.OK},
		{"main = ^#add 1;", api.ErrArity},
		{"main = ^#add 1 2 3;", api.ErrArity},
		{"main = ^#add 1 no;", api.ErrName},
		{"main = ^#add no no no;", api.ErrArity},
		{"main = ^#no;", api.ErrPrim},
		{"main = ^#no no;", api.ErrPrim},
		{"main = ^#addd 1 2;", api.ErrPrim},
		{"main = 5;", api.OK},
	})
	// A con, a prim and a name of the same letters are three things; no text has these.
	agree(t, of(app(7, "C", atom(1))), fault{7, api.ErrName})
	agree(t, of(app(7, "#add", atom(1), atom(2))), fault{7, api.ErrName})
	agree(t, of(con(7, "main", atom(1))), fault{7, api.ErrCon})
	agree(t, of(con(7, "#add", atom(1), atom(1))), fault{7, api.ErrCon})
	agree(t, of(prim(7, "main")), fault{7, api.ErrPrim})
	agree(t, of(prim(7, "C", atom(1))), fault{7, api.ErrPrim})
	agree(t, of(app(7, "main", named("C"))), fault{7, api.ErrName})
	agree(t, of(app(7, "main", named("#add"))), fault{7, api.ErrName})
	agree(t, of(app(7, "")), fault{7, api.ErrName})
	agree(t, of(app(7, "", slices.Repeat([]api.Atom{atom(1)}, 9)...)), fault{7, api.ErrName})
	agree(t, of(con(7, "")), fault{7, api.ErrCon})
	agree(t, of(prim(7, "")), fault{7, api.ErrPrim})
	agree(t, api.Program{Datas: []api.Data{data(1, "", 1)}, Binds: []api.Bind{bind(2, "main", con(3, "", atom(1)))}}, fault{})
	agree(t, binds(bind(1, "C", num(2, 1)), bind(3, "main", app(4, "C", named("C")))), fault{})
	// An atom with a name has no number.
	agree(t, of(app(7, "main", api.Atom{Name: "main", N: math.MinInt64}, atom(math.MaxInt64))), fault{})
	agree(t, of(app(7, "main", api.Atom{Name: "no", N: 1})), fault{7, api.ErrName})
}

func atomsOf(n int) []api.Atom { return slices.Repeat([]api.Atom{atom(1), named("main")}, n)[:n] }

func TestHowManyAtoms(t *testing.T) {
	for n := range 12 {
		for arity := range 9 {
			w := fault{}
			if n != arity {
				w = fault{7, api.ErrArity}
			}
			agree(t, api.Program{Datas: []api.Data{data(1, "C", arity)}, Binds: []api.Bind{bind(3, "main", con(7, "C", atomsOf(n)...))}}, w)
		}
		for name, arity := range primArgs {
			w := fault{}
			if n != arity {
				w = fault{7, api.ErrArity}
			}
			agree(t, of(prim(7, name, atomsOf(n)...)), w)
		}
		w := fault{}
		if n > 8 {
			w = fault{7, api.ErrArity}
		}
		agree(t, of(app(7, "main", atomsOf(n)...)), w)
		for place := range n { // one that is not in scope, anywhere
			l := atomsOf(n)
			l[place] = named("no")
			if n <= 8 {
				agree(t, of(app(7, "main", l...)), fault{7, api.ErrName})
				agree(t, api.Program{Datas: []api.Data{data(1, "C", n)}, Binds: []api.Bind{bind(3, "main", con(7, "C", l...))}}, fault{7, api.ErrName})
			}
			for name, arity := range primArgs {
				if n == arity {
					agree(t, of(prim(7, name, l...)), fault{7, api.ErrName})
				}
			}
		}
	}
}

// Which names are in scope where: each place of a name, in each scope, and in those beside it.
func TestInScope(t *testing.T) {
	holdTexts(t, []marked{
		// Arguments: in their own form, and no other.
		{`f = \ a -> a; g = ^a; main = 1;`, api.ErrName},
		{`g = ^a; f = \ a -> a; main = 1;`, api.ErrName},
		{`f = \ a -> f a; g = \ b -> ^f a; main = 1;`, api.ErrName},
		{`main = let { f = \ a -> a; g = ^a; } in 1;`, api.ErrName},
		{`main = let { f = \ a -> a; g = f; } in ^a;`, api.ErrName},
		{`main = \ a -> let { f = \ b -> a; g = a; } in a;`, api.OK},
		{`main = \ a -> let { f = \ a -> a; g = a; } in a;`, api.OK},
		{`main = \ a -> let { f = \ f a -> f a; g = f a; } in g f a;`, api.OK},
		// Binds of an XLet: in all of their forms, and in its body, not behind it.
		{"main = let { a = b; b = a; } in a b;", api.OK},
		{"main = let { a = a; } in a;", api.OK},
		{"main = let { a = b c; b = c a; c = a b; } in 1;", api.OK},
		{"main = let { a = ^no; } in a;", api.ErrName},
		{"main = let { a = 1; } in ^no;", api.ErrName},
		{"main = let { a = 1; } in a; f = ^a;", api.ErrName},
		{"main = let { a = let { b = 1; } in b; } in ^b;", api.ErrName},
		{"main = let { a = let { b = 1; } in b; c = ^b; } in 1;", api.ErrName},
		{"main = let { a = ^b; c = let { b = 1; } in b; } in 1;", api.ErrName},
		{"main = case let { a = 1; } in a of { x -> ^a; };", api.ErrName},
		{"main = case 1 of { 1 -> let { a = 1; } in a; 2 -> ^a; };", api.ErrName},
		{"main = let { a = let { a = a; } in a; } in a;", api.OK},
		{"main = let { a = let { a = a; } in a; b = a; } in a; f = ^a;", api.ErrName},
		{"main = let { f = 1; } in f; f = main; g = f;", api.OK},
		// Variables: in the alternative's body alone.
		{"data C 1; main = case 1 of { C x -> x; y -> y; };", api.OK},
		{"data C 1; main = case ^x of { C x -> x; };", api.ErrName},
		{"data C 1; main = case 1 of { C x -> x; y -> ^x; };", api.ErrName},
		{"data C 1; main = case 1 of { C x -> ^y; y -> y; };", api.ErrName},
		{"data C 1; main = case 1 of { C x -> x; 1 -> ^x; };", api.ErrName},
		{"data C 1; main = case 1 of { C x -> x; }; f = ^x;", api.ErrName},
		{"main = case 1 of { x -> x; }; f = ^x;", api.ErrName},
		{"main = case ^x of { x -> x; };", api.ErrName},
		{"main = case case 1 of { x -> x; } of { y -> ^x; };", api.ErrName},
		{"main = case case 1 of { x -> x; } of { 1 -> ^x; };", api.ErrName},
		{"data C 2; main = case 1 of { C x y -> C x y; };", api.OK},
		{"data C 2; data D 2; main = case 1 of { C x y -> C x y; D y z -> ^C x z; };", api.ErrName},
		{"data C 8; main = case 1 of { C a b c d e f g h -> C a b c d e f g h; };", api.OK},
		{"data C 1; main = case 1 of { C x -> case x of { C x -> x; }; };", api.OK},
		{"data C 1; main = case 1 of { C x -> let { y = case x of { C x -> x; }; } in x; };", api.OK},
		{"main = case 1 of { x -> case case x of { x -> x; } of { y -> x y; }; };", api.OK},
		{`main = \ x -> case case x of { x -> x; } of { y -> x y; }; f = ^x;`, api.ErrName},
		{"main = case 1 of { main -> main; }; f = main;", api.OK},
		{"data C 1; main = case 1 of { C main -> main; }; f = main;", api.OK},
		{`main = \ x -> case x of { 1 -> x; y -> x y; };`, api.OK},
		// Atoms, in each kind that has them.
		{`data C 2; main = \ a -> let { b = C a b; c = #add a b; d = main a b; } in case C b c of { C x y -> C x y; z -> #seq z d; };`, api.OK},
		{`data C 2; main = \ a -> let { b = ^C a x; } in case b of { C x y -> C x y; };`, api.ErrName},
		{`data C 2; main = \ a -> let { b = ^#add x a; } in case b of { C x y -> C x y; };`, api.ErrName},
		{`data C 2; main = \ a -> let { b = ^main a 1 x; } in case b of { C x y -> C x y; };`, api.ErrName},
	})
}

// Each kind of a place where names come from, each way to name one: the name is in scope there, and beside it is not.
func TestInScopeByEachKind(t *testing.T) {
	uses := []api.Exp{
		app(7, "x"), app(7, "x", atom(1)), app(7, "main", named("x")), app(7, "main", atom(2), named("x")), con(7, "C", named("x")),
		prim(7, "#add", atom(1), named("x")), prim(7, "#ref", named("x")),
	}
	within := map[string]func(api.Exp) api.Exp{
		"itself":    func(x api.Exp) api.Exp { return x },
		"a form":    func(x api.Exp) api.Exp { return let(11, num(12, 1), bind(13, "q", x, "r")) },
		"a let":     func(x api.Exp) api.Exp { return let(11, x, bind(13, "q", num(12, 1), "x")) },
		"asked":     func(x api.Exp) api.Exp { return choice(11, x, onAll(14, "x", num(15, 1))) },
		"of a con":  func(x api.Exp) api.Exp { return choice(11, num(12, 1), onCon(14, "C", x, "q")) },
		"of an int": func(x api.Exp) api.Exp { return choice(11, num(12, 1), onInt(14, 1, x)) },
		"of all":    func(x api.Exp) api.Exp { return choice(11, num(12, 1), onInt(14, 1, num(15, 1)), onAll(16, "q", x)) },
	}
	scopes := map[string]func(api.Exp) api.Program{
		"a program's bind": func(x api.Exp) api.Program { return binds(bind(1, "main", x), bind(2, "x", num(3, 1))) },
		"an argument":      func(x api.Exp) api.Program { return binds(bind(1, "main", x, "y", "x")) },
		"a let's bind":     func(x api.Exp) api.Program { return binds(bind(1, "main", let(2, x, bind(3, "x", num(4, 1))))) },
		"beside it": func(x api.Exp) api.Program {
			return binds(bind(1, "main", let(2, num(5, 1), bind(3, "x", num(4, 1)), bind(6, "y", x))))
		},
		"of itself": func(x api.Exp) api.Program { return binds(bind(1, "main", let(2, num(5, 1), bind(3, "x", x)))) },
		"an inner argument": func(x api.Exp) api.Program {
			return binds(bind(1, "main", let(2, num(5, 1), bind(3, "y", x, "x"))))
		},
		"a variable": func(x api.Exp) api.Program {
			return binds(bind(1, "main", choice(2, num(3, 1), onCon(4, "C", x, "x"))))
		},
		"all": func(x api.Exp) api.Program { return binds(bind(1, "main", choice(2, num(3, 1), onAll(4, "x", x)))) },
	}
	for _, use := range uses {
		for _, put := range within {
			for _, place := range scopes {
				p := place(put(use))
				p.Datas = []api.Data{data(1, "C", 1)}
				agree(t, p, fault{})
				q := copied(p) // all that is bound as x is bound as z: what is used as x is nobody's
				for i := range q.Binds {
					renameBound(&q.Binds[i], "x", "z")
				}
				agree(t, q, fault{7, api.ErrName})
			}
		}
	}
}

// renameBound puts another name where one is bound, and leaves what is used as it is.
func renameBound(b *api.Bind, from, to string) {
	rename(b, func(name string) string {
		if name == from {
			return to
		}
		return name
	}, func(name string) string { return name })
}

// rename turns all names of a bind that are bound, and all that are used.
func rename(b *api.Bind, bound, used func(string) string) {
	b.Name = bound(b.Name)
	turnAll(b.Form.Args, bound)
	renameExp(&b.Form.Body, bound, used)
}

func turnAll(names []string, turn func(string) string) {
	for i := range names {
		names[i] = turn(names[i])
	}
}

func renameExp(x *api.Exp, bound, used func(string) string) {
	if x.Kind == api.XApp {
		x.Name = used(x.Name)
	}
	for i := range x.Atoms {
		x.Atoms[i].Name = used(x.Atoms[i].Name)
	}
	for i := range x.Binds {
		rename(&x.Binds[i], bound, used)
	}
	for i := range x.Kids {
		renameExp(&x.Kids[i], bound, used)
	}
	for i := range x.Alts {
		a := &x.Alts[i]
		if a.Kind == api.AAll {
			a.Name = bound(a.Name)
		}
		turnAll(a.Vars, bound)
		renameExp(&a.Body, bound, used)
	}
}

// Step 3: XLet.
func TestLets(t *testing.T) {
	holdTexts(t, []marked{
		{"main = let { a = 1; b = 2; ab = 3; } in 1;", api.OK},
		{"main = let { a = 1; ^a = 2; } in 1;", api.ErrTwice},
		{"main = let { a = no; b = 2; c = 1; ^b = 1; } in no;", api.ErrTwice},
		{"main = let { a = 1; b = 2; ^b = 1; a = 3; } in no;", api.ErrTwice},
		{"main = let { a = let { c = 1; ^c = 1; } in 1; b = no; } in no;", api.ErrTwice},
		{"main = let { a = let { a = 1; } in 1; } in let { a = 1; } in 1; a = 1;", api.OK},
		{"main = let { main = 1; } in main;", api.OK},
		{"main = let { a = ^no; b = #no; } in C;", api.ErrName},
		{"main = let { a = 1; b = ^#no; } in C;", api.ErrPrim},
		{"main = let { a = 1; b = 1; } in ^C;", api.ErrCon},
	})
	one := num(9, 1)
	for _, none := range [][]api.Bind{nil, {}} {
		for _, kids := range [][]api.Exp{nil, {}, {one}, {app(9, "no")}, {one, one}} {
			agree(t, of(api.Exp{Kind: api.XLet, At: 7, Binds: none, Kids: kids}), fault{7, api.ErrArg})
		}
	}
	for _, none := range [][]api.Exp{nil, {}} {
		agree(t, of(api.Exp{Kind: api.XLet, At: 7, Kids: none, Binds: []api.Bind{bind(8, "a", one)}}), fault{7, api.ErrArg})
		agree(t, of(api.Exp{Kind: api.XLet, At: 7, Kids: none, Binds: []api.Bind{bind(8, "", app(9, "no"))}}), fault{7, api.ErrArg})
	}
	agree(t, of(let(7, one, bind(8, "", one))), fault{8, api.ErrName})
	agree(t, of(let(7, one, bind(8, "", one), bind(9, "", one))), fault{8, api.ErrName})
	agree(t, of(let(7, app(1, "no"), bind(8, "a", app(2, "no")), bind(9, "", one))), fault{9, api.ErrName})
	agree(t, of(let(7, one, bind(8, "a", one), bind(9, "a", one), bind(10, "", one))), fault{9, api.ErrTwice})
	agree(t, of(let(7, one, bind(8, "a", one), bind(9, "", one), bind(10, "a", one))), fault{9, api.ErrName})
	// The first of Kids is the body; no text has more.
	more := let(7, app(8, "a"), bind(9, "a", one))
	more.Kids = append(more.Kids, app(10, "no"), api.Exp{})
	agree(t, of(more), fault{})
	more.Kids[0].Name = "no"
	agree(t, of(more), fault{8, api.ErrName})
}

// Step 3: XCase.
func TestCases(t *testing.T) {
	holdTexts(t, []marked{
		{"data C 1; data D 0; main = case 1 of { C x -> x; D -> 1; 0 -> 1; 1 -> 1; -1 -> 1; x -> x; };", api.OK},
		{"main = case ^no of { x -> no; };", api.ErrName},
		{"main = case ^no of { x -> 1; 1 -> 1; };", api.ErrName},
		{"main = case 1 of { x -> 1; ^y -> 1; };", api.ErrLast},
		{"main = case 1 of { x -> 1; ^x -> 1; };", api.ErrLast},
		{"main = case 1 of { x -> 1; ^1 -> 1; };", api.ErrLast},
		{"main = case 1 of { x -> 1; ^C y y -> no; };", api.ErrLast},
		{"main = case 1 of { 1 -> 1; x -> 1; ^1 -> no; 1 -> 1; };", api.ErrLast},
		{"main = case 1 of { x -> ^no; 1 -> 1; };", api.ErrName},
		{"main = case 1 of { x -> case x of { y -> y; }; };", api.OK},
		{"main = case 1 of { 1 -> case 2 of { y -> y; }; 2 -> 3; };", api.OK},
		{"main = case 1 of { ^C -> no; };", api.ErrCon},
		{"data C 1; main = case 1 of { ^D x x -> no; };", api.ErrCon},
		{"data C 1; main = case 1 of { ^C -> no; };", api.ErrArity},
		{"data C 1; main = case 1 of { ^C x x -> no; };", api.ErrArity},
		{"data C 0; main = case 1 of { ^C x -> no; };", api.ErrArity},
		{"data C 8; main = case 1 of { ^C a b c d e f g -> no; };", api.ErrArity},
		{"data C 8; main = case 1 of { ^C a b c d e f g h i -> no; };", api.ErrArity},
		{"data C 2; main = case 1 of { ^C x x -> no; };", api.ErrTwice},
		{"data C 3; main = case 1 of { ^C x y x -> no; };", api.ErrTwice},
		{"data C 8; main = case 1 of { ^C a b c d e f g a -> no; };", api.ErrTwice},
		{"data C 1; main = case 1 of { C x -> 1; ^C y -> no; };", api.ErrTwice},
		{"data C 1; data D 0; main = case 1 of { C x -> 1; D -> 1; 1 -> 1; ^C y -> no; };", api.ErrTwice},
		{"data C 1; data D 0; main = case 1 of { C x -> 1; D -> 1; ^D -> 1; C y -> no; };", api.ErrTwice},
		{"data C 1; main = case 1 of { C x -> 1; ^C -> no; };", api.ErrArity},
		{"data C 1; main = case 1 of { C x -> ^no; C x -> no; };", api.ErrName},
		{"data C 1; main = case 1 of { C x -> case x of { C x -> 1; }; 1 -> case 1 of { C x -> 1; 1 -> 1; }; };", api.OK},
		{"main = case 1 of { 1 -> 1; ^1 -> no; };", api.ErrTwice},
		{"main = case 1 of { 1 -> 1; 2 -> 2; 3 -> 3; ^2 -> no; 1 -> 1; };", api.ErrTwice},
		{"main = case 1 of { 1 -> 1; -1 -> 2; ^-1 -> no; };", api.ErrTwice},
		{"main = case 1 of { 0 -> 1; ^-0 -> no; };", api.ErrTwice},
		{"main = case 1 of { 7 -> 1; ^007 -> no; };", api.ErrTwice},
		{"main = case 1 of { 1 -> 1; 4294967297 -> 1; 9223372036854775807 -> 1; -9223372036854775808 -> 1; };", api.OK},
		{"main = case 1 of { 9223372036854775807 -> 1; ^9223372036854775807 -> 1; };", api.ErrTwice},
		{"main = case 1 of { -9223372036854775808 -> 1; ^-9223372036854775808 -> 1; };", api.ErrTwice},
		{"main = case 1 of { 1 -> ^no; 1 -> 1; };", api.ErrName},
		{"main = case 1 of { 1 -> 1; 2 -> ^no; 1 -> 1; };", api.ErrName},
	})
	one, alt := num(9, 1), onAll(9, "x", num(9, 1))
	for _, none := range [][]api.Exp{nil, {}} {
		for _, alts := range [][]api.Alt{nil, {}, {alt}, {alt, alt}} {
			agree(t, of(api.Exp{Kind: api.XCase, At: 7, Kids: none, Alts: alts}), fault{7, api.ErrArg})
		}
	}
	for _, none := range [][]api.Alt{nil, {}} {
		agree(t, of(api.Exp{Kind: api.XCase, At: 7, Alts: none, Kids: []api.Exp{one}}), fault{7, api.ErrArg})
		agree(t, of(api.Exp{Kind: api.XCase, At: 7, Alts: none, Kids: []api.Exp{app(8, "no")}}), fault{7, api.ErrArg})
	}
	more := choice(7, one, alt)
	more.Kids = append(more.Kids, app(10, "no"), api.Exp{})
	agree(t, of(more), fault{})
	more.Kids[0] = app(8, "no")
	agree(t, of(more), fault{8, api.ErrName})
}

// What no text has: empty variables and names, and what kinds do not name.
func TestAlternatives(t *testing.T) {
	one, no := num(9, 1), app(9, "no")
	with := func(alts ...api.Alt) api.Program {
		p := of(choice(7, one, alts...))
		p.Datas = append(p.Datas, data(4, "E", 3), data(5, "", 1))
		return p
	}
	agree(t, with(onAll(8, "", no)), fault{8, api.ErrName})
	agree(t, with(onAll(8, "x", one), onAll(10, "", no)), fault{10, api.ErrLast})
	agree(t, with(onAll(8, "", one), onAll(10, "", no)), fault{8, api.ErrName})
	agree(t, with(onCon(8, "C", no, "")), fault{8, api.ErrName})
	agree(t, with(onCon(8, "C", no, "", "")), fault{8, api.ErrArity})
	agree(t, with(onCon(8, "D", no, "")), fault{8, api.ErrArity})
	agree(t, with(onCon(8, "F", no, "")), fault{8, api.ErrCon})
	agree(t, with(onCon(8, "", one, "x"), onCon(10, "C", one, "x")), fault{})
	agree(t, with(onCon(8, "E", no, "x", "x", "")), fault{8, api.ErrName})
	agree(t, with(onCon(8, "E", no, "", "x", "x")), fault{8, api.ErrName})
	agree(t, with(onCon(8, "E", no, "", "", "x")), fault{8, api.ErrName})
	agree(t, with(onCon(8, "E", no, "x", "y", "y")), fault{8, api.ErrTwice})
	agree(t, with(onCon(8, "E", no, "y", "x", "y")), fault{8, api.ErrTwice})
	agree(t, with(onCon(8, "E", app(9, "x", named("y"), named("z")), "x", "y", "z")), fault{})
	agree(t, with(onCon(8, "C", one, "x"), onCon(10, "C", no, "")), fault{10, api.ErrName})
	agree(t, with(onCon(8, "C", one, "x"), onCon(10, "C", no)), fault{10, api.ErrArity})
	agree(t, with(onCon(8, "D", one, []string{}...), onCon(10, "D", no)), fault{10, api.ErrTwice})
	// Constructors and numbers are doubles by what their kind names, and by nothing else.
	all := func(kind int, name string, n int64, vars ...string) api.Alt {
		return api.Alt{Kind: kind, At: 8, Name: name, N: n, Vars: vars, Body: one}
	}
	agree(t, with(all(api.ACon, "C", 1, "x"), all(api.AInt, "C", 1, "", ""), all(api.ACon, "D", 1), all(api.AInt, "C", 2, "x", "x"), all(api.AAll, "C", 2, "", "")), fault{})
	agree(t, with(all(api.AInt, "C", 1, ""), all(api.ACon, "C", 1, "x"), all(api.AInt, "", 0), all(api.AAll, "D", 0, "x", "x")), fault{})
	agree(t, with(all(api.ACon, "C", 1, "x"), all(api.ACon, "C", 2, "y")), fault{8, api.ErrTwice})
	agree(t, with(all(api.AInt, "C", 1, "x"), all(api.AInt, "D", 1, "y")), fault{8, api.ErrTwice})
	// The variables that an AInt and an AAll have are not in scope, nor is the Name of an ACon or an AInt.
	for _, kind := range []int{api.ACon, api.AInt, api.AAll} {
		a := api.Alt{Kind: kind, At: 8, Name: "C", Vars: []string{"x"}, N: 3}
		a.Body = app(9, "x")
		w := fault{9, api.ErrName}
		if kind == api.ACon {
			w = fault{}
		}
		agree(t, with(a), w)
		a.Body = app(9, "C")
		w = fault{9, api.ErrName}
		if kind == api.AAll {
			w = fault{}
		}
		agree(t, with(a), w)
	}
	for _, at := range places {
		agree(t, with(onInt(8, 1, one), onInt(at, 1, one)), fault{at, api.ErrTwice})
		agree(t, with(onAll(8, "x", one), onInt(at, 1, one)), fault{at, api.ErrLast})
		agree(t, with(onAll(at, "", one)), fault{at, api.ErrName})
		agree(t, with(onCon(at, "D", one, "x")), fault{at, api.ErrArity})
		agree(t, with(onCon(at, "No", one, "x")), fault{at, api.ErrCon})
	}
}

// What a kind does not name is not looked at, whatever stands there.
func TestFieldsThatKindsDoNotName(t *testing.T) {
	bad := []api.Bind{bind(21, "", app(22, "no"), "x", "x", ""), bind(23, "", api.Exp{})}
	kids := []api.Exp{app(24, "no"), {}}
	alts := []api.Alt{onAll(25, "", app(26, "no")), {}}
	atoms := []api.Atom{named("no"), {}}
	for _, x := range []api.Exp{app(7, "main"), con(7, "D"), prim(7, "#ref", atom(1))} {
		x.N, x.Binds, x.Kids, x.Alts = math.MinInt64, bad, kids, alts
		agree(t, of(x), fault{})
		x.Name += "z"
		if _, e := scope.Check(of(x)); e == api.OK {
			t.Errorf("%s is right", x.Name)
		}
	}
	agree(t, of(api.Exp{Kind: api.XInt, At: 7, Name: "no", N: math.MaxInt64, Atoms: atoms, Binds: bad, Kids: kids, Alts: alts}), fault{})
	agree(t, of(api.Exp{Kind: api.XInt}), fault{})
	x := let(7, app(8, "a"), bind(9, "a", num(10, 1)))
	x.Name, x.N, x.Atoms, x.Alts = "no", 9, atoms, alts
	agree(t, of(x), fault{})
	x = choice(7, num(8, 1), onAll(9, "a", app(10, "a")))
	x.Name, x.N, x.Atoms, x.Binds = "no", 9, atoms, bad
	agree(t, of(x), fault{})
	// The binds of an expression that is no XLet bind nothing, nor do the alternatives of one that is no XCase.
	x.Alts[0].Body = app(10, "b")
	x.Binds = []api.Bind{bind(11, "b", num(12, 1))}
	agree(t, of(x), fault{10, api.ErrName})
}

func TestKindsThatAreNone(t *testing.T) {
	full := func(kind int) api.Exp {
		return api.Exp{Kind: kind, At: 7, Name: "main", Binds: []api.Bind{bind(8, "a", num(9, 1))}, Kids: []api.Exp{num(9, 1)}, Alts: []api.Alt{onAll(8, "x", num(9, 1))}}
	}
	for _, kind := range noKinds {
		agree(t, of(full(kind)), fault{7, api.ErrArg})
		agree(t, of(api.Exp{Kind: kind, At: 7}), fault{7, api.ErrArg})
		agree(t, of(let(1, full(kind), bind(2, "a", num(3, 1)))), fault{7, api.ErrArg})
		agree(t, of(let(1, num(3, 1), bind(2, "a", full(kind)))), fault{7, api.ErrArg})
		agree(t, of(choice(1, full(kind), onAll(2, "a", num(3, 1)))), fault{7, api.ErrArg})
		agree(t, of(choice(1, num(2, 1), onAll(3, "a", full(kind)))), fault{7, api.ErrArg})
	}
	for _, kind := range slices.Concat(noKinds, []int{4, 5, 6}) {
		a := api.Alt{Kind: kind, At: 8, Name: "D", Body: app(9, "no")}
		agree(t, of(choice(1, num(2, 1), a)), fault{8, api.ErrArg})
		agree(t, of(choice(1, num(2, 1), onCon(3, "D", num(4, 1)), a)), fault{8, api.ErrArg})
		agree(t, of(choice(1, num(2, 1), onAll(3, "x", num(4, 1)), a)), fault{8, api.ErrLast})
		b := a
		b.At = 10
		agree(t, of(choice(1, num(2, 1), a, b)), fault{8, api.ErrArg})
	}
	for _, at := range places {
		agree(t, of(api.Exp{At: at}), fault{at, api.ErrArg})
		agree(t, of(api.Exp{Kind: api.XLet, At: at}), fault{at, api.ErrArg})
		agree(t, of(api.Exp{Kind: api.XCase, At: at}), fault{at, api.ErrArg})
		agree(t, of(app(at, "no")), fault{at, api.ErrName})
		agree(t, of(app(at, "main", named("no"))), fault{at, api.ErrName})
		agree(t, of(con(at, "No")), fault{at, api.ErrCon})
		agree(t, of(prim(at, "#no")), fault{at, api.ErrPrim})
		agree(t, of(prim(at, "#len")), fault{at, api.ErrArity})
	}
}

// Step 4.
func TestNoMain(t *testing.T) {
	holdTexts(t, []marked{
		{"", api.ErrMain},
		{"data C 1;", api.ErrMain},
		{"f = 1; g = f;", api.ErrMain},
		{"mainx = 1; mai = 1;", api.ErrMain},
		{"f = let { main = 1; } in main;", api.ErrMain},
		{`f = \ main -> main;`, api.ErrMain},
		{"f = case 1 of { main -> main; };", api.ErrMain},
		{"data C 1; f = case 1 of { C main -> main; };", api.ErrMain},
		{"f = ^no;", api.ErrName},
		{"f = 1; ^f = 1;", api.ErrTwice},
		{"data ^C 9;", api.ErrArity},
		{"f = ^main;", api.ErrName},
		{"main = 1;", api.OK},
		{"f = 1; g = 1; main = 1; h = 1;", api.OK},
		{`main = \ a b c -> 1;`, api.OK},
	})
	agree(t, api.Program{Datas: []api.Data{}, Binds: []api.Bind{}}, fault{0, api.ErrMain})
	agree(t, api.Program{Datas: []api.Data{data(7, "main", 0)}}, fault{0, api.ErrMain})
	agree(t, binds(bind(7, "Main", num(8, 1)), bind(9, "main ", num(8, 1)), bind(10, "main\x00", num(8, 1))), fault{0, api.ErrMain})
}

// P9.2 (Arity).

func wantArity(t *testing.T, p api.Program, name string, n int, ok bool) {
	t.Helper()
	was := whole(p)
	if got, has := scope.Arity(p, name); got != n || has != ok {
		t.Errorf("Arity of %q: %d, %v; want %d, %v: %s", name, got, has, n, ok, short(p))
	}
	if whole(p) != was {
		t.Errorf("it was changed: %s", short(was))
	}
}

func TestArity(t *testing.T) {
	p, _ := text(t, "data C 1; data D 0; data C 2; data E 8; data D 3; f = no; main = #no;")
	wantArity(t, p, "C", 1, true)
	wantArity(t, p, "D", 0, true)
	wantArity(t, p, "E", 8, true)
	for _, none := range []string{"", "F", "c", "CC", "f", "main", "no", "#no", "#add", "C\x00", "\xff"} {
		wantArity(t, p, none, 0, false)
		wantArity(t, api.Program{}, none, 0, false)
		wantArity(t, api.Program{Datas: []api.Data{}, Binds: p.Binds}, none, 0, false)
	}
	// How many fields a data has is what it says, be it right or not.
	for _, n := range []int{math.MinInt, -1, 0, 1, 8, 9, 1 << 32, math.MaxInt} {
		p := api.Program{Datas: []api.Data{data(1, "A", 3), data(2, "", n), data(3, "C", n), data(4, "C", 4), data(5, "", 5)}}
		wantArity(t, p, "", n, true)
		wantArity(t, p, "C", n, true)
		wantArity(t, p, "A", 3, true)
	}
	var many api.Program
	for i := range 5000 {
		many.Datas = append(many.Datas, data(i, fmt.Sprint("D", i%3000), i%9))
	}
	for i := range 3000 {
		if n, ok := scope.Arity(many, fmt.Sprint("D", i)); n != i%9 || !ok {
			t.Errorf("Arity of D%d: %d, %v", i, n, ok)
		}
	}
	wantArity(t, many, "D3000", 0, false)
}
