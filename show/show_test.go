package show_test

import (
	"fmt"
	"math"
	"math/rand"
	"slices"
	"strings"
	"testing"

	"midden/api"
	"midden/lex"
	"midden/show"
	"midden/tree"
)

// Short ways to write trees down.
func app(name string, atoms ...api.Atom) api.Exp {
	return api.Exp{Kind: api.XApp, Name: name, Atoms: atoms}
}
func con(name string, atoms ...api.Atom) api.Exp {
	return api.Exp{Kind: api.XCon, Name: name, Atoms: atoms}
}
func prim(name string, atoms ...api.Atom) api.Exp {
	return api.Exp{Kind: api.XPrim, Name: name, Atoms: atoms}
}
func num(n int64) api.Exp { return api.Exp{Kind: api.XInt, N: n} }
func let(body api.Exp, binds ...api.Bind) api.Exp {
	return api.Exp{Kind: api.XLet, Binds: binds, Kids: []api.Exp{body}}
}
func choice(asked api.Exp, alts ...api.Alt) api.Exp {
	return api.Exp{Kind: api.XCase, Kids: []api.Exp{asked}, Alts: alts}
}
func bind(name string, body api.Exp, args ...string) api.Bind {
	return api.Bind{Name: name, Form: api.Form{Args: args, Body: body}}
}
func onCon(name string, body api.Exp, vars ...string) api.Alt {
	return api.Alt{Kind: api.ACon, Name: name, Vars: vars, Body: body}
}
func onInt(n int64, body api.Exp) api.Alt     { return api.Alt{Kind: api.AInt, N: n, Body: body} }
func onAll(name string, body api.Exp) api.Alt { return api.Alt{Kind: api.AAll, Name: name, Body: body} }
func named(name string) api.Atom              { return api.Atom{Name: name} }
func atom(n int64) api.Atom                   { return api.Atom{N: n} }
func data(name string, arity int) api.Data    { return api.Data{Name: name, Arity: arity} }

func binds(l ...api.Bind) api.Program { return api.Program{Binds: l} }

// alone is a program of one bind.
func alone(x api.Exp) api.Program { return binds(bind("f", x)) }

// Numbers of int that are no kind of expressions, nor of alternatives; the lower half of some is one.
var noKinds = []int{
	math.MinInt, math.MinInt + 1, -1 << 32, -1<<32 + 1, -1 << 31, -6, -5, -3, -1, 0, 7, 8, 255, 257, 1<<16 + 3,
	1<<31 - 1, 1 << 32, 1<<32 + 1, 1<<32 + 5, 1<<32 + 6, math.MaxInt - 1, math.MaxInt,
}

var numbers = []int64{0, 1, -1, 7, 10, -10, 99, 1 << 31, -1 << 31, 1<<32 - 1, 1 << 53, math.MaxInt64 - 1, math.MaxInt64, math.MinInt64, math.MinInt64 + 1}

// P7.1: the tokens, written down one by one.

func TestTokensOfAProgram(t *testing.T) {
	p := api.Program{
		Datas: []api.Data{data("C", 1)},
		Binds: []api.Bind{bind("f", choice(app("x"), onCon("C", app("y"), "y"), onInt(3, app("g", named("x"), atom(1))), onAll("z", con("C", named("z")))), "x")},
	}
	sign := func(text string) api.Token { return api.Token{Kind: api.TSign, Text: text} }
	word := func(text string) api.Token { return api.Token{Kind: api.TWord, Text: text} }
	name := func(text string) api.Token { return api.Token{Kind: api.TName, Text: text} }
	great := func(text string) api.Token { return api.Token{Kind: api.TCon, Text: text} }
	number := func(n int64) api.Token { return api.Token{Kind: api.TInt, N: n} }
	want := []api.Token{
		word("data"), great("C"), number(1), sign(";"),
		name("f"), sign("="), sign(`\`), name("x"), sign("->"), word("case"), name("x"), word("of"), sign("{"),
		great("C"), name("y"), sign("->"), name("y"), sign(";"),
		number(3), sign("->"), name("g"), name("x"), number(1), sign(";"),
		name("z"), sign("->"), great("C"), name("z"), sign(";"),
		sign("}"), sign(";"),
	}
	l, e := show.Tokens(p)
	if e != api.OK || !slices.Equal(l, want) {
		t.Errorf("%+v, %d", l, int(e))
	}
}

var texts = []struct {
	p    api.Program
	text string
}{
	{api.Program{}, ""},
	{api.Program{Datas: []api.Data{}, Binds: []api.Bind{}}, ""},
	{api.Program{Datas: []api.Data{data("C", 0)}}, "data C 0 ;\n"},
	{api.Program{Datas: []api.Data{data("C", 2), data("D", 10)}}, "data C 2 ;\ndata D 10 ;\n"},
	{api.Program{Datas: []api.Data{data("C", 2), data("C", 2)}}, "data C 2 ;\ndata C 2 ;\n"},
	{api.Program{Datas: []api.Data{data("C", math.MaxInt), data("D", math.MinInt), data("E", -1)}}, "data C 9223372036854775807 ;\ndata D -9223372036854775808 ;\ndata E -1 ;\n"},
	{binds(bind("id", app("x"), "x")), "id = \\ x -> x ;\n"},
	{binds(bind("f", app("x"))), "f = x ;\n"},
	{binds(bind("f", num(0)), bind("f", num(-5))), "f = 0 ;\nf = -5 ;\n"},
	{binds(bind("f", num(math.MaxInt64)), bind("g", num(math.MinInt64))), "f = 9223372036854775807 ;\ng = -9223372036854775808 ;\n"},
	{binds(bind("f", app("x"), "x", "y", "x")), "f = \\ x y x -> x ;\n"},
	{binds(bind("f", app("g", named("x"), atom(-1), atom(0), named("y")))), "f = g x -1 0 y ;\n"},
	{binds(bind("f", app("g", api.Atom{Name: "x", N: 9}))), "f = g x ;\n"},
	{binds(bind("f", con("C"))), "f = C ;\n"},
	{binds(bind("f", con("C", atom(1), named("x")))), "f = C 1 x ;\n"},
	{binds(bind("f", prim("#add", named("x"), atom(-1)), "x")), "f = \\ x -> #add x -1 ;\n"},
	{binds(bind("f", prim("#nothing"))), "f = #nothing ;\n"},
	{binds(bind("f", let(app("x"), bind("x", num(1))))), "f = let { x = 1 ; } in x ;\n"},
	{binds(bind("f", let(app("x"), bind("x", num(1)), bind("y", app("x"), "a", "b")))), "f = let { x = 1 ; y = \\ a b -> x ; } in x ;\n"},
	{binds(bind("f", let(let(num(3), bind("b", num(2))), bind("a", num(1))), "n"), bind("g", num(4))), "f = \\ n -> let { a = 1 ; } in let { b = 2 ; } in 3 ;\ng = 4 ;\n"},
	{binds(bind("f", let(num(3), bind("a", let(num(2), bind("b", num(1))))))), "f = let { a = let { b = 1 ; } in 2 ; } in 3 ;\n"},
	{binds(bind("f", choice(app("x"), onCon("C", num(1))))), "f = case x of { C -> 1 ; } ;\n"},
	{binds(bind("f", choice(app("x"), onCon("C", num(1), "a", "b"), onInt(-4, num(2)), onAll("z", app("z"))))), "f = case x of { C a b -> 1 ; -4 -> 2 ; z -> z ; } ;\n"},
	{binds(bind("f", choice(app("x"), onAll("a", num(1)), onAll("b", num(2))))), "f = case x of { a -> 1 ; b -> 2 ; } ;\n"},
	{binds(bind("f", choice(choice(app("x"), onAll("a", num(1))), onInt(0, choice(num(2), onAll("b", num(3))))))), "f = case case x of { a -> 1 ; } of { 0 -> case 2 of { b -> 3 ; } ; } ;\n"},
	{binds(bind("f", choice(let(num(2), bind("a", num(1))), onAll("b", let(num(4), bind("c", num(3))))))), "f = case let { a = 1 ; } in 2 of { b -> let { c = 3 ; } in 4 ; } ;\n"},
	{api.Program{Datas: []api.Data{data("P", 2)}, Binds: []api.Bind{bind("main", num(1)), bind("g", num(2))}}, "data P 2 ;\nmain = 1 ;\ng = 2 ;\n"},
	{binds(bind("letx", app("in_", named("ofA"), named("data9"), named("caseof")))), "letx = in_ ofA data9 caseof ;\n"},
}

func TestTexts(t *testing.T) {
	for _, c := range texts {
		wantText(t, c.p, c.text)
		byModel(t, c.p)
	}
}

func TestNumbersInTheirWholeRange(t *testing.T) {
	for _, n := range numbers {
		p := api.Program{
			Datas: []api.Data{data("C", int(n))},
			Binds: []api.Bind{bind("f", choice(num(n), onInt(n, app("g", atom(n)))))},
		}
		wantText(t, p, fmt.Sprintf("data C %d ;\nf = case %d of { %d -> g %d ; } ;\n", n, n, n, n))
	}
}

// Names. A place where one stands: how it is set, and which kind it is of. An atom has no word where its name is empty.
type place struct {
	what string
	kind int
	set  func(p *api.Program, name string)
	atom bool
}

// full has each place where a name stands, and everything but those places right.
func full() api.Program {
	inner := let(
		choice(app("x", named("a"), atom(1), named("b")), onCon("C", con("D", named("c"), atom(2), named("d")), "v", "w"), onInt(3, prim("#add", named("e"), atom(4), named("f"))), onAll("u", num(5))),
		bind("g", num(6), "h", "i"), bind("j", num(7)),
	)
	return api.Program{
		Datas: []api.Data{data("A", 1), data("B", 2)},
		Binds: []api.Bind{bind("k", inner, "l", "m"), bind("n", num(8))},
	}
}

func body(p *api.Program) *api.Exp    { return &p.Binds[0].Form.Body }
func asked(p *api.Program) *api.Exp   { return &body(p).Kids[0].Kids[0] }
func alts(p *api.Program) []api.Alt   { return body(p).Kids[0].Alts }
func inner(p *api.Program) []api.Bind { return body(p).Binds }

var places = []place{
	{"a data", api.TCon, func(p *api.Program, s string) { p.Datas[0].Name = s }, false},
	{"another data", api.TCon, func(p *api.Program, s string) { p.Datas[1].Name = s }, false},
	{"a bind", api.TName, func(p *api.Program, s string) { p.Binds[0].Name = s }, false},
	{"an argument", api.TName, func(p *api.Program, s string) { p.Binds[0].Form.Args[0] = s }, false},
	{"another argument", api.TName, func(p *api.Program, s string) { p.Binds[0].Form.Args[1] = s }, false},
	{"an inner bind", api.TName, func(p *api.Program, s string) { inner(p)[0].Name = s }, false},
	{"an inner argument", api.TName, func(p *api.Program, s string) { inner(p)[0].Form.Args[0] = s }, false},
	{"another inner argument", api.TName, func(p *api.Program, s string) { inner(p)[0].Form.Args[1] = s }, false},
	{"another inner bind", api.TName, func(p *api.Program, s string) { inner(p)[1].Name = s }, false},
	{"an XApp", api.TName, func(p *api.Program, s string) { asked(p).Name = s }, false},
	{"an XApp's atom", api.TName, func(p *api.Program, s string) { asked(p).Atoms[0].Name = s }, true},
	{"an XApp's last atom", api.TName, func(p *api.Program, s string) { asked(p).Atoms[2].Name = s }, true},
	{"an ACon", api.TCon, func(p *api.Program, s string) { alts(p)[0].Name = s }, false},
	{"a variable", api.TName, func(p *api.Program, s string) { alts(p)[0].Vars[0] = s }, false},
	{"another variable", api.TName, func(p *api.Program, s string) { alts(p)[0].Vars[1] = s }, false},
	{"an XCon", api.TCon, func(p *api.Program, s string) { alts(p)[0].Body.Name = s }, false},
	{"an XCon's atom", api.TName, func(p *api.Program, s string) { alts(p)[0].Body.Atoms[0].Name = s }, true},
	{"an XCon's last atom", api.TName, func(p *api.Program, s string) { alts(p)[0].Body.Atoms[2].Name = s }, true},
	{"an XPrim", api.TPrim, func(p *api.Program, s string) { alts(p)[1].Body.Name = s }, false},
	{"an XPrim's atom", api.TName, func(p *api.Program, s string) { alts(p)[1].Body.Atoms[0].Name = s }, true},
	{"an XPrim's last atom", api.TName, func(p *api.Program, s string) { alts(p)[1].Body.Atoms[2].Name = s }, true},
	{"an AAll", api.TName, func(p *api.Program, s string) { alts(p)[2].Name = s }, false},
	{"the last bind", api.TName, func(p *api.Program, s string) { p.Binds[1].Name = s }, false},
}

var tail = strings.Repeat("x", 40)

var names = []string{
	"", "let", "in", "case", "of", "data", "letx", "Let", "#let", "a", "z", "A", "Z", "#a", "#z", "#A", "#", "##a", "#1", "#_",
	"_", "_a", "a_", "a0", "A_9z", "#a_9Z", "1", "-1", "0", "->", "=", "\\", "{", "}", ";", "(", ")", "--", "--a",
	"a b", " a", "a ", "A ", "#a ", "a\n", "\na", "\ta", "a\r", "a--", "a-b", "a;", "a\x00", "\x00", "\x00a", "é", "aé", "\xff", "a\xff", "K", "ſ", "(a)", "a'", "a.b", "a#b", "# a",
	"a" + tail[:30], "a" + tail[:31], "a" + tail[:32], "A" + tail[:31], "A" + tail[:32], "#a" + tail[:29], "#a" + tail[:30], "#a" + tail[:31],
	strings.Repeat("a", 1<<16),
}

func TestEachNameAtEachPlace(t *testing.T) {
	wrong := 0
	for _, at := range places {
		for _, name := range names {
			p := full()
			at.set(&p, name)
			if e := api.ErrArg; !isWord(name, at.kind) && !(at.atom && name == "") {
				wantError(t, p, e)
				wrong++
			} else if _, e := show.Print(p); e != api.OK {
				t.Errorf("%q as the name of %s: %d", name, at.what, int(e))
			}
			byModel(t, p)
		}
	}
	if wrong < len(places)*len(names)/2 {
		t.Errorf("only %d names were wrong", wrong)
	}
}

func TestAnAtomsNameAndNumber(t *testing.T) {
	for _, n := range numbers {
		wantText(t, alone(app("g", api.Atom{Name: "x", N: n}, api.Atom{N: n})), fmt.Sprintf("f = g x %d ;\n", n))
		wantError(t, alone(app("g", api.Atom{Name: "7", N: n})), api.ErrArg)
		wantError(t, alone(app("g", api.Atom{Name: "C", N: n})), api.ErrArg)
	}
}

func TestKindsThatThereAreNot(t *testing.T) {
	for _, kind := range noKinds {
		x := app("g", atom(1))
		x.Kind, x.N, x.Binds, x.Kids, x.Alts = kind, 1, []api.Bind{bind("a", num(1))}, []api.Exp{num(1)}, []api.Alt{onAll("a", num(1))}
		for _, p := range []api.Program{
			alone(x), alone(let(x, bind("a", num(1)))), alone(let(num(1), bind("a", x))), alone(choice(x, onAll("a", num(1)))), alone(choice(num(1), onAll("a", x))),
			alone(choice(num(1), onCon("C", x))), alone(choice(num(1), onInt(1, x))), binds(bind("f", num(1)), bind("g", x)), binds(bind("g", x), bind("f", num(1))), binds(bind("g", x, "a")),
		} {
			wantError(t, p, api.ErrArg)
			byModel(t, p)
		}
		a := onCon("C", num(1), "x")
		a.Kind = kind
		wantError(t, alone(choice(num(1), a)), api.ErrArg)
		wantError(t, alone(choice(num(1), onAll("x", num(1)), a)), api.ErrArg)
		wantError(t, alone(choice(num(1), a, onAll("x", num(1)))), api.ErrArg)
	}
	for kind := 4; kind <= 6; kind++ { // kinds of expressions, not of alternatives
		wantError(t, alone(choice(num(1), api.Alt{Kind: kind, Name: "C", Body: num(1)})), api.ErrArg)
	}
	wantError(t, alone(api.Exp{}), api.ErrArg)
	wantError(t, binds(api.Bind{Name: "f"}), api.ErrArg)
	wantError(t, binds(api.Bind{}), api.ErrArg)
	wantError(t, api.Program{Datas: []api.Data{{}}}, api.ErrArg)
}

func TestLetsAndCasesThatLackSomething(t *testing.T) {
	for _, none := range []bool{true, false} {
		var noBinds []api.Bind
		var noAlts []api.Alt
		var noKids []api.Exp
		if !none {
			noBinds, noAlts, noKids = make([]api.Bind, 0, 3), make([]api.Alt, 0, 3), make([]api.Exp, 0, 3)
		}
		some := []api.Bind{bind("a", num(1))}
		alts := []api.Alt{onAll("a", num(1))}
		for _, kids := range [][]api.Exp{noKids, {num(1)}, {num(1), num(2)}, {num(1), {Kind: 99}, {}}} {
			for _, b := range [][]api.Bind{noBinds, some, append(some, bind("b", num(2)))} {
				p := alone(api.Exp{Kind: api.XLet, Kids: kids, Binds: b, Alts: alts})
				byModel(t, p)
				if len(kids) == 0 || len(b) == 0 {
					wantError(t, p, api.ErrArg)
				} else if _, e := show.Print(p); e != api.OK {
					t.Errorf("a let with %d kids and %d binds: %d", len(kids), len(b), int(e))
				}
			}
			for _, a := range [][]api.Alt{noAlts, alts, append(alts, onInt(3, num(2)))} {
				p := alone(api.Exp{Kind: api.XCase, Kids: kids, Alts: a, Binds: some})
				byModel(t, p)
				if len(kids) == 0 || len(a) == 0 {
					wantError(t, p, api.ErrArg)
				} else if _, e := show.Print(p); e != api.OK {
					t.Errorf("a case with %d kids and %d alternatives: %d", len(kids), len(a), int(e))
				}
			}
		}
	}
}

func TestOnlyTheFirstKidIsWritten(t *testing.T) {
	bad := api.Exp{Kind: 99}
	x := let(num(1), bind("a", num(2)))
	x.Kids = append(x.Kids, num(3), bad, deep(80, "let", num(1)))
	wantText(t, alone(x), "f = let { a = 2 ; } in 1 ;\n")
	x = choice(num(1), onAll("a", num(2)))
	x.Kids = append(x.Kids, bad, num(3))
	wantText(t, alone(x), "f = case 1 of { a -> 2 ; } ;\n")
	x.Kids = []api.Exp{bad, num(3)}
	wantError(t, alone(x), api.ErrArg)
}

// Deep expressions.

// Ways to put an expression into another one, next.
var within = map[string]func(x api.Exp) api.Exp{
	"let":       func(x api.Exp) api.Exp { return let(x, bind("a", num(1))) },
	"bind":      func(x api.Exp) api.Exp { return let(num(1), bind("a", x)) },
	"last bind": func(x api.Exp) api.Exp { return let(num(1), bind("b", num(2)), bind("a", x, "c")) },
	"case":      func(x api.Exp) api.Exp { return choice(x, onAll("a", num(1))) },
	"con":       func(x api.Exp) api.Exp { return choice(num(1), onCon("C", x, "a")) },
	"int":       func(x api.Exp) api.Exp { return choice(num(1), onInt(1, x)) },
	"all":       func(x api.Exp) api.Exp { return choice(num(1), onAll("a", x)) },
	"last alt":  func(x api.Exp) api.Exp { return choice(num(1), onInt(1, num(2)), onCon("C", num(3)), onAll("a", x)) },
}

var ways = []string{"let", "bind", "last bind", "case", "con", "int", "all", "last alt"}

// deep puts an expression into so many others that it is n deep.
func deep(n int, way string, x api.Exp) api.Exp {
	for range n - 1 {
		x = within[way](x)
	}
	return x
}

// mixed is deep by all ways, one behind the other.
func mixed(n, from int, x api.Exp) api.Exp {
	for i := range n - 1 {
		x = within[ways[(i+from)%len(ways)]](x)
	}
	return x
}

// Expressions with a fault of their own, at their first token.
func faulty() []api.Exp {
	return []api.Exp{
		{}, {Kind: 7}, {Kind: math.MinInt}, app(""), app("A"), con("a"), con(""), prim("add"), prim(""),
		{Kind: api.XLet}, {Kind: api.XLet, Kids: []api.Exp{num(1)}}, {Kind: api.XLet, Binds: []api.Bind{bind("a", num(1))}},
		{Kind: api.XCase}, {Kind: api.XCase, Kids: []api.Exp{num(1)}}, {Kind: api.XCase, Alts: []api.Alt{onAll("a", num(1))}},
	}
}

func TestDeep(t *testing.T) {
	right := []api.Exp{num(1), app("x"), app("x", atom(1)), con("C"), prim("#a", named("x"))}
	for i, way := range ways {
		for _, x := range right {
			for _, p := range []api.Program{alone(deep(60, way, x)), alone(mixed(60, i, x)), binds(bind("f", num(1)), bind("g", deep(60, way, x), "a"))} {
				if _, e := show.Print(p); e != api.OK {
					t.Errorf("60 deep by %s: %d", way, int(e))
				}
				byModel(t, p)
			}
			for _, n := range []int{61, 62, 63, 100, 1000} {
				wantError(t, alone(deep(n, way, x)), api.ErrNest)
				wantError(t, alone(mixed(n, i, x)), api.ErrNest)
				wantError(t, binds(bind("f", num(1)), bind("g", deep(n, way, x), "a")), api.ErrNest)
			}
		}
		wantError(t, alone(deep(60, way, let(num(1), bind("a", num(1))))), api.ErrNest)
		wantError(t, alone(deep(60, way, choice(num(1), onAll("a", num(1))))), api.ErrNest)
		wantError(t, alone(deep(1<<16, way, num(1))), api.ErrNest)
	}
}

// A tree that holds itself is deeper than anything: the walk ends where it is too deep.
func TestATreeThatHoldsItself(t *testing.T) {
	kids := []api.Exp{let(num(1), bind("a", num(1)))}
	kids[0].Kids = kids
	wantError(t, alone(kids[0]), api.ErrNest)
	alts := []api.Alt{onInt(1, num(1)), onAll("a", num(1))}
	for i := range alts {
		alts[i].Body = choice(num(1), alts...)
		alts[i].Body.Alts = alts
	}
	wantError(t, alone(choice(num(1), alts...)), api.ErrNest)
}

// At one expression the depth comes first, whatever else is wrong with it.
func TestDeepAndWrongAtOnce(t *testing.T) {
	for i, way := range ways {
		for _, x := range faulty() {
			wantError(t, alone(deep(60, way, x)), api.ErrArg)
			wantError(t, alone(deep(61, way, x)), api.ErrNest)
			wantError(t, alone(deep(62, way, x)), api.ErrNest)
			wantError(t, alone(mixed(60, i, x)), api.ErrArg)
			wantError(t, alone(mixed(61, i, x)), api.ErrNest)
			byModel(t, alone(deep(60, way, x)))
			byModel(t, alone(deep(61, way, x)))
		}
	}
}

// Of several faults the first in the order of the tokens.
func TestTheFirstOfSeveralFaults(t *testing.T) {
	low := deep(61, "let", num(1))                                           // is too deep
	sunk := func(x api.Exp) api.Program { return alone(deep(60, "let", x)) } // x is 60 deep: what is in it is too deep
	cases := []struct {
		what string
		p    api.Program
		want api.Errno
	}{
		{"a data's name ahead", api.Program{Datas: []api.Data{data("c", 1)}, Binds: []api.Bind{bind("f", low)}}, api.ErrArg},
		{"a bind's name ahead", binds(bind("", low)), api.ErrArg},
		{"an argument ahead", binds(bind("f", low, "x", "Y")), api.ErrArg},
		{"a bind ahead", binds(bind("f", app("X")), bind("g", low)), api.ErrArg},
		{"a bind behind", binds(bind("f", low), bind("G", num(1))), api.ErrNest},
		{"a body behind", binds(bind("f", low), bind("g", api.Exp{})), api.ErrNest},
		{"an atom ahead", binds(bind("f", let(low, bind("a", app("g", named("X")))))), api.ErrArg},
		{"an inner bind ahead of the body", binds(bind("f", let(low, bind("A", num(1))))), api.ErrArg},
		{"the body behind an inner bind", binds(bind("f", let(app("X"), bind("a", low)))), api.ErrNest},
		{"an inner bind behind another", binds(bind("f", let(num(1), bind("a", low), bind("B", num(1))))), api.ErrNest},
		{"an inner argument ahead", binds(bind("f", let(num(1), bind("a", low, "B")))), api.ErrArg},
		{"what is asked ahead of alternatives", binds(bind("f", choice(app("X"), onAll("a", low)))), api.ErrArg},
		{"alternatives behind what is asked", binds(bind("f", choice(low, onAll("A", num(1))))), api.ErrNest},
		{"no kind of alternatives behind what is asked", binds(bind("f", choice(low, api.Alt{Kind: 4, Body: num(1)}))), api.ErrNest},
		{"no kind of alternatives ahead of its body", binds(bind("f", choice(num(1), api.Alt{Kind: 4, Body: low}))), api.ErrArg},
		{"an ACon's name ahead of its body", binds(bind("f", choice(num(1), onCon("c", low)))), api.ErrArg},
		{"an ACon's variable ahead of its body", binds(bind("f", choice(num(1), onCon("C", low, "a", "")))), api.ErrArg},
		{"an AAll's name ahead of its body", binds(bind("f", choice(num(1), onAll("let", low)))), api.ErrArg},
		{"an alternative behind another's body", binds(bind("f", choice(num(1), onInt(1, low), onAll("", num(1))))), api.ErrNest},
		{"a let without binds, what is in it too deep", sunk(api.Exp{Kind: api.XLet, Kids: []api.Exp{num(1)}}), api.ErrArg},
		{"a let without Kids, what is in it too deep", sunk(api.Exp{Kind: api.XLet, Binds: []api.Bind{bind("a", num(1))}}), api.ErrArg},
		{"a case without alternatives, what is in it too deep", sunk(api.Exp{Kind: api.XCase, Kids: []api.Exp{num(1)}}), api.ErrArg},
		{"a case without Kids, what is in it too deep", sunk(api.Exp{Kind: api.XCase, Alts: []api.Alt{onAll("a", num(1))}}), api.ErrArg},
		{"a wrong name 60 deep ahead of one that is too deep", sunk(let(num(1), bind("A", num(1)))), api.ErrArg},
		{"a wrong pattern 60 deep behind what is asked", sunk(choice(num(1), onAll("A", num(1)))), api.ErrNest},
	}
	for _, c := range cases {
		if _, e := show.Tokens(c.p); e != c.want {
			t.Errorf("%s: %d; want %d", c.what, int(e), int(c.want))
		}
		byModel(t, c.p)
	}
}

// Each name wrong, with a bind that is too deep ahead of it and behind it.
func TestDepthAheadOfNamesAndBehindThem(t *testing.T) {
	low := bind("low", deep(61, "case", num(1)))
	for _, at := range places {
		p := full()
		at.set(&p, "-")
		p.Binds = append(p.Binds, low)
		wantError(t, p, api.ErrArg)
		p.Binds = append([]api.Bind{low}, p.Binds...)
		if at.kind == api.TCon && strings.HasSuffix(at.what, "data") {
			wantError(t, p, api.ErrArg) // datas stand ahead of all binds
		} else {
			wantError(t, p, api.ErrNest)
		}
	}
}

// What a kind does not name does not count, whatever it is.
func TestFieldsThatAKindDoesNotName(t *testing.T) {
	junk := api.Exp{Kind: 99, Kids: []api.Exp{{}}, Binds: []api.Bind{{}}}
	fill := func(x api.Exp, keep string) api.Exp {
		y := api.Exp{
			Kind: x.Kind, At: math.MinInt, Name: "let", N: math.MaxInt64, Atoms: []api.Atom{{Name: "-"}},
			Binds: []api.Bind{{Name: "", Form: api.Form{Args: []string{""}, Body: junk}}}, Kids: []api.Exp{junk, junk}, Alts: []api.Alt{{Kind: -1, Body: junk}},
		}
		for _, field := range strings.Fields(keep) {
			switch field {
			case "Name":
				y.Name = x.Name
			case "N":
				y.N = x.N
			case "Atoms":
				y.Atoms = x.Atoms
			case "Binds":
				y.Binds = x.Binds
			case "Kids":
				y.Kids = append(slices.Clone(x.Kids), junk)
			case "Alts":
				y.Alts = x.Alts
			}
		}
		return y
	}
	wantText(t, alone(fill(app("g", atom(1)), "Name Atoms")), "f = g 1 ;\n")
	wantText(t, alone(fill(con("C", named("x")), "Name Atoms")), "f = C x ;\n")
	wantText(t, alone(fill(prim("#p"), "Name Atoms")), "f = #p ;\n")
	wantText(t, alone(fill(num(5), "N")), "f = 5 ;\n")
	wantText(t, alone(fill(let(num(1), bind("a", num(2))), "Binds Kids")), "f = let { a = 2 ; } in 1 ;\n")
	wantText(t, alone(fill(choice(num(1), onInt(2, num(3))), "Kids Alts")), "f = case 1 of { 2 -> 3 ; } ;\n")
	for _, at := range []int{math.MinInt, -1, 0, 1, math.MaxInt} {
		p := api.Program{
			Datas: []api.Data{{Name: "C", Arity: 1, At: at}},
			Binds: []api.Bind{{Name: "f", At: at, Form: api.Form{Body: choice(num(1),
				api.Alt{Kind: api.ACon, At: at, Name: "C", N: 9, Vars: []string{"x"}, Body: num(1)},
				api.Alt{Kind: api.AInt, At: at, Name: "let", N: 4, Vars: []string{"", "A"}, Body: num(2)},
				api.Alt{Kind: api.AAll, At: at, Name: "y", N: 9, Vars: []string{"", "A"}, Body: num(3)},
			)}}},
		}
		wantText(t, p, "data C 1 ;\nf = case 1 of { C x -> 1 ; 4 -> 2 ; y -> 3 ; } ;\n")
	}
}

// P7.2: how long a text is, and where lines end.

// filled is a program whose text is n bytes long: n >= 16.
func filled(n int) api.Program {
	var p api.Program
	for ; n >= 32; n -= 8 {
		p.Binds = append(p.Binds, bind("a", num(1))) // 8 bytes
	}
	name := "b" + strings.Repeat("c", n-8)
	return api.Program{Binds: append(p.Binds, bind(name, num(1)))}
}

func TestHowLongATextMayBe(t *testing.T) {
	for _, n := range []int{16, 31, 32, 33, 100, 16383, 16384} {
		p := filled(n)
		s, e := show.Print(p)
		if e != api.OK || len(s) != n {
			t.Errorf("%d bytes: %d bytes, %d", n, len(s), int(e))
		}
		byModel(t, p)
	}
	for _, n := range []int{16385, 16386, 16392, 20000, 1 << 20} {
		p := filled(n)
		if s, e := show.Print(p); e != api.ErrBig || s != "" {
			t.Errorf("%d bytes: %s, %d; want nothing, %d", n, short(s), int(e), int(api.ErrBig))
		}
		byModel(t, p)
	}
}

// Texts of all lengths about the limit, whose bytes stand in one line, in several, in datas, and within one another.
func TestTextsAboutTheLimit(t *testing.T) {
	atoms := func(n int) []api.Atom { // n bytes, with the blanks behind them
		var l []api.Atom
		for ; n > 2; n -= 2 {
			l = append(l, named("a"))
		}
		if n == 2 {
			return append(l, named("a"))
		}
		return append(l[:len(l)-1], named("aa"))
	}
	for total := 16380; total <= 16390; total++ {
		var datas []api.Data
		for range 1000 {
			datas = append(datas, data("C", 1))
		}
		rest := total - 11*1000
		programs := []api.Program{
			alone(app("x", atoms(total-len("f = x ;\n"))...)),
			alone(let(app("x", atoms(total-len("f = let { a = 1 ; } in x ;\n"))...), bind("a", num(1)))),
			alone(choice(num(1), onAll("a", app("x", atoms(total-len("f = case 1 of { a -> x ; } ;\n"))...)))),
			binds(bind("f", num(1)), bind("g", app("x", atoms(total-len("f = 1 ;\ng = x ;\n"))...))),
			binds(bind("f", app("x", atoms(total-len("f = x ;\ng = 1 ;\n"))...)), bind("g", num(1))),
			{Datas: datas, Binds: []api.Bind{bind("f", app("x", atoms(rest-len("f = x ;\n"))...))}},
		}
		for i, p := range programs {
			s, e := show.Print(p)
			if total <= 16384 && (e != api.OK || len(s) != total) || total > 16384 && (e != api.ErrBig || s != "") {
				t.Errorf("program %d with %d bytes: %d bytes, %d", i, total, len(s), int(e))
			}
			byModel(t, p)
		}
	}
}

// Tokens' errors come ahead of the length, wherever they stand.
func TestErrorsOfTextsThatAreTooLong(t *testing.T) {
	p := filled(20000)
	last := len(p.Binds) - 1
	for _, at := range []int{0, last / 2, last} {
		q := binds(slices.Clone(p.Binds)...)
		q.Binds[at] = bind("f", app("X"))
		wantError(t, q, api.ErrArg)
		q.Binds[at] = bind("f", deep(61, "all", num(1)))
		wantError(t, q, api.ErrNest)
		q.Binds[at] = bind("f", num(1), "A")
		wantError(t, q, api.ErrArg)
	}
}

// Tokens has no limit.
func TestTokensOfLongTexts(t *testing.T) {
	l, e := show.Tokens(filled(1 << 20))
	if want := 4 * len(filled(1<<20).Binds); e != api.OK || len(l) != want {
		t.Errorf("%d tokens, %d; want %d", len(l), int(e), want)
	}
}

// wantLines holds a text's lines to the program's datas and binds, one by one, and all else to what lex.Join makes.
func wantLines(t *testing.T, p api.Program, s string) {
	t.Helper()
	l, _ := show.Tokens(p)
	joined, e := lex.Join(l)
	if e != api.OK || strings.ReplaceAll(s, "\n", " ") != joined {
		t.Errorf("%s is not %s", short(s), short(joined))
	}
	lines := strings.SplitAfter(s, "\n")
	if many := len(p.Datas) + len(p.Binds); len(lines) != many+1 || lines[many] != "" {
		t.Errorf("%s has %d lines; want %d", short(s), len(lines)-1, many)
		return
	}
	for i, line := range lines[:len(lines)-1] {
		var one api.Program
		if i < len(p.Datas) {
			one.Datas = p.Datas[i : i+1]
		} else {
			one.Binds = p.Binds[i-len(p.Datas) : i-len(p.Datas)+1]
		}
		q, _, e := tree.Parse(line)
		if e != api.OK || !tree.Same(q, one) || !strings.HasSuffix(line, " ;\n") {
			t.Errorf("%s is not line %d", short(line), i)
		}
	}
}

func TestLines(t *testing.T) {
	for _, c := range texts {
		wantLines(t, c.p, c.text)
	}
	p := full()
	s, e := show.Print(p)
	if e != api.OK {
		t.Fatal(int(e))
	}
	wantLines(t, p, s)
}

// P7.3, P7.4: there and back, and again.

// wantBack holds a program that can be written to what its text is read as.
func wantBack(t *testing.T, p api.Program) {
	t.Helper()
	s, e := show.Print(p)
	if e != api.OK {
		t.Errorf("%s: %d", short(fmt.Sprintf("%+v", p)), int(e))
		return
	}
	q, at, e := tree.Parse(s)
	if e != api.OK || at != 0 || !tree.Same(p, q) {
		t.Errorf("%s is parsed as something else: %d, %d", short(s), at, int(e))
	}
	again, e := show.Print(q)
	if e != api.OK || again != s {
		t.Errorf("%s is printed again as %s, %d", short(s), short(again), int(e))
	}
	l, _, _ := lex.Scan(s)
	for i := range l {
		l[i].At = 0
		if l[i].Text == "(" || l[i].Text == ")" {
			t.Errorf("%s has parentheses", short(s))
		}
	}
	if m, _ := show.Tokens(q); !slices.Equal(l, m) {
		t.Errorf("%s: its tokens are %s", short(s), short(fmt.Sprint(m)))
	}
}

func TestThereAndBack(t *testing.T) {
	for _, c := range texts {
		wantBack(t, c.p)
	}
	wantBack(t, full())
	for i, way := range ways {
		wantBack(t, alone(deep(60, way, app("x", atom(1)))))
		wantBack(t, alone(mixed(60, i, num(1))))
	}
	for n := 16370; n <= 16384; n++ {
		wantBack(t, filled(n))
	}
	for _, name := range []string{"a" + tail[:31], "letx", "a_0Z"} {
		wantBack(t, alone(app(name, named(name))))
	}
}

// Texts of any look are printed in one way, without parentheses and remarks.
func TestTextsThatLookDifferent(t *testing.T) {
	open, shut := strings.Repeat("(", 59), strings.Repeat(")", 59)
	for s, want := range map[string]string{
		"f=(x);":                                    "f = x ;\n",
		"f=" + open + "x" + shut + ";":              "f = x ;\n",
		"--r\nf\t=\r\n-007;--":                      "f = -7 ;\n",
		"f=\\x->(case(x)of{C->(1);});":              "f = \\ x -> case x of { C -> 1 ; } ;\n",
		"data C 01;f=let{a=(let{b=1;}in b);}in(a);": "data C 1 ;\nf = let { a = let { b = 1 ; } in b ; } in a ;\n",
		"": "", "--": "", "\n\n": "",
	} {
		p, _, e := tree.Parse(s)
		if e != api.OK {
			t.Fatalf("%s: %d", short(s), int(e))
		}
		wantText(t, p, want)
		wantBack(t, p)
	}
}

// Programs by chance.

type maker struct{ *rand.Rand }

func (m maker) name(kind int) string {
	const first, rest = "abcdefghijklmnopqrstuvwxyz", "abcXYZ019_"
	for {
		n := m.Intn(4)
		if m.Intn(20) == 0 {
			n = 31
		}
		text := string(first[m.Intn(len(first))])
		for range n {
			text += string(rest[m.Intn(len(rest))])
		}
		switch kind {
		case api.TCon:
			text = strings.ToUpper(text[:1]) + text[1:]
		case api.TPrim:
			text = "#" + text[:min(len(text), 31)]
		}
		if isWord(text, kind) {
			return text
		}
	}
}

func (m maker) names(n int) []string {
	var l []string
	for range n {
		l = append(l, m.name(api.TName))
	}
	return l
}

func (m maker) number() int64 {
	if m.Intn(2) == 0 {
		return numbers[m.Intn(len(numbers))]
	}
	return int64(m.Intn(40) - 20)
}

func (m maker) bind(left int) api.Bind {
	return api.Bind{Name: m.name(api.TName), At: m.Int(), Form: api.Form{Args: m.names(m.Intn(3)), Body: m.exp(left)}}
}

// exp makes an expression in which there may be others so many times; what its kind does not name may be anything.
func (m maker) exp(left int) api.Exp {
	x := api.Exp{Kind: 1 + m.Intn(6), At: m.Int()}
	if left <= 0 {
		x.Kind = 1 + m.Intn(4)
	}
	if m.Intn(4) == 0 {
		x.Name, x.N, x.Atoms, x.Kids = "let", 5, []api.Atom{{Name: "-"}}, []api.Exp{{Kind: 9}}
		x.Binds, x.Alts = []api.Bind{{}}, []api.Alt{{}}
	}
	switch x.Kind {
	case api.XInt:
		x.N = m.number()
	case api.XLet:
		x.Binds, x.Kids = nil, []api.Exp{m.exp(left - 1 - m.Intn(3))}
		for range 1 + m.Intn(2) {
			x.Binds = append(x.Binds, m.bind(left-1-m.Intn(3)))
		}
	case api.XCase:
		x.Alts, x.Kids = nil, []api.Exp{m.exp(left - 1 - m.Intn(3))}
		for range 1 + m.Intn(3) {
			x.Alts = append(x.Alts, m.alt(left-1-m.Intn(3)))
		}
	default:
		x.Name, x.Atoms = m.name(headKind[x.Kind]), nil
		for range m.Intn(4) {
			a := api.Atom{N: m.number()}
			if m.Intn(2) == 0 {
				a.Name = m.name(api.TName)
			}
			x.Atoms = append(x.Atoms, a)
		}
	}
	return x
}

func (m maker) alt(left int) api.Alt {
	a := api.Alt{Kind: 1 + m.Intn(3), At: m.Int(), N: m.number(), Name: "let", Vars: []string{"-"}, Body: m.exp(left)}
	switch a.Kind {
	case api.ACon:
		a.Name, a.Vars = m.name(api.TCon), m.names(m.Intn(3))
	case api.AAll:
		a.Name = m.name(api.TName)
	}
	return a
}

func (m maker) program() api.Program {
	var p api.Program
	for range m.Intn(3) {
		p.Datas = append(p.Datas, api.Data{Name: m.name(api.TCon), Arity: int(m.number()), At: m.Int()})
	}
	for range m.Intn(4) {
		p.Binds = append(p.Binds, m.bind(m.Intn(6)))
	}
	return p
}

func TestProgramsByChance(t *testing.T) {
	m := maker{rand.New(rand.NewSource(7))}
	for range 1500 {
		p := m.program()
		byModel(t, p)
		if text, _ := model(p); len(text) <= 16384 {
			wantBack(t, p)
			s, _ := show.Print(p)
			wantLines(t, p, s)
		}
	}
}

// spoil makes something of a program wrong; or lets it be.
func (m maker) spoil(p *api.Program) {
	if len(p.Datas) > 0 && m.Intn(4) == 0 {
		p.Datas[m.Intn(len(p.Datas))].Name = m.wrongName()
	}
	if len(p.Binds) > 0 {
		m.spoilBind(&p.Binds[m.Intn(len(p.Binds))])
	}
}

func (m maker) wrongName() string { return names[m.Intn(len(names)-1)] }

func (m maker) spoilBind(b *api.Bind) {
	switch n := m.Intn(8); {
	case n == 0:
		b.Name = m.wrongName()
	case n == 1 && len(b.Form.Args) > 0:
		b.Form.Args[m.Intn(len(b.Form.Args))] = m.wrongName()
	default:
		m.spoilExp(&b.Form.Body)
	}
}

func (m maker) spoilExp(x *api.Exp) {
	switch n := m.Intn(12); {
	case n == 0:
		x.Kind = noKinds[m.Intn(len(noKinds))]
	case n == 1:
		x.Kind = 1 + m.Intn(6)
	case n == 2:
		x.Name = m.wrongName()
	case n == 3 && len(x.Atoms) > 0:
		x.Atoms[m.Intn(len(x.Atoms))].Name = m.wrongName()
	case n == 4:
		x.Kids = nil
	case n == 5:
		x.Binds = nil
	case n == 6:
		x.Alts = nil
	case n == 7, n == 8 && x.Kind < api.XLet:
		*x = mixed(56+m.Intn(8), m.Intn(9), *x)
	case n == 8 && len(x.Alts) > 0:
		a := &x.Alts[m.Intn(len(x.Alts))]
		a.Kind, a.Name, a.Vars = m.Intn(5), m.wrongName(), m.names(m.Intn(2))
	case x.Kind == api.XLet && len(x.Binds) > 0 && m.Intn(2) == 0:
		m.spoilBind(&x.Binds[m.Intn(len(x.Binds))])
	case x.Kind == api.XCase && len(x.Alts) > 0 && m.Intn(2) == 0:
		m.spoilExp(&x.Alts[m.Intn(len(x.Alts))].Body)
	case len(x.Kids) > 0:
		m.spoilExp(&x.Kids[0])
	}
}

func TestWrongProgramsByChance(t *testing.T) {
	m := maker{rand.New(rand.NewSource(8))}
	seen := map[api.Errno]int{}
	for range 6000 {
		p := m.program()
		for range 1 + m.Intn(4) {
			m.spoil(&p)
		}
		byModel(t, p)
		_, e := model(p)
		seen[e]++
	}
	if seen[api.OK] < 100 || seen[api.ErrArg] < 1000 || seen[api.ErrNest] < 150 {
		t.Errorf("not enough of each: %v", seen)
	}
}

// R3, R4: what is handed in stays, what is told is new, and the same again.

// roomy is a list with spare room behind it that is not empty.
func roomy[T any](spare T, l ...T) []T {
	all := append(slices.Clone(l), spare, spare)
	return all[:len(l)]
}

func roomyProgram() api.Program {
	x := api.Exp{
		Kind:  api.XLet,
		Binds: roomy(bind("spare", num(9)), api.Bind{Name: "a", Form: api.Form{Args: roomy("spare", "b", "c"), Body: app("d", roomy(named("spare"), named("e"), atom(1))...)}}),
		Kids: roomy(num(9), api.Exp{
			Kind: api.XCase, Kids: roomy(num(9), num(1)),
			Alts: roomy(onAll("spare", num(9)), api.Alt{Kind: api.ACon, Name: "C", Vars: roomy("spare", "f"), Body: num(2)}),
		}),
	}
	return api.Program{Datas: roomy(data("Spare", 9), data("C", 1)), Binds: roomy(bind("spare", num(9)), bind("f", x))}
}

func TestWhatIsHandedInStays(t *testing.T) {
	p := roomyProgram()
	byModel(t, p)
	wantText(t, p, "data C 1 ;\nf = let { a = \\ b c -> d e 1 ; } in case 1 of { C f -> 2 ; } ;\n")
	p.Binds[0].Form.Body.Kids[0].Alts[0].Vars[0] = "F"
	byModel(t, p)
	p = roomyProgram()
	p.Binds[0].Form.Body = deep(61, "let", p.Binds[0].Form.Body)
	byModel(t, p)
}

func TestWhatIsToldIsNew(t *testing.T) {
	p := full()
	was := whole(p)
	a, _ := show.Tokens(p)
	b, _ := show.Tokens(p)
	if !slices.Equal(a, b) {
		t.Error("told differently")
	}
	a = a[:cap(a)]
	for i := range a {
		a[i] = api.Token{Kind: 99, Text: "gone"}
	}
	c, _ := show.Tokens(p)
	if !slices.Equal(b, c) || whole(p) != was {
		t.Error("what was told is kept, or shared")
	}
	s, _ := show.Print(p)
	again, _ := show.Print(p)
	if s != again {
		t.Error("printed differently")
	}
}
