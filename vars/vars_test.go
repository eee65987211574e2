package vars_test

import (
	"math"
	"slices"
	"strings"
	"testing"

	"midden/api"
	"midden/scope"
	"midden/vars"
)

// Short ways to write trees down.
func app(name string, atoms ...api.Atom) api.Exp {
	return api.Exp{Kind: api.XApp, Name: name, Atoms: atoms}
}
func con(name string, atoms ...api.Atom) api.Exp {
	return api.Exp{Kind: api.XCon, Name: name, Atoms: atoms}
}
func prim(name string, atoms ...api.Atom) api.Exp {
	return api.Exp{Kind: api.XPrim, Name: name, Atoms: atoms}
}
func num(n int64) api.Exp { return api.Exp{Kind: api.XInt, N: n} }
func let(body api.Exp, binds ...api.Bind) api.Exp {
	return api.Exp{Kind: api.XLet, Binds: binds, Kids: []api.Exp{body}}
}
func choice(asked api.Exp, alts ...api.Alt) api.Exp {
	return api.Exp{Kind: api.XCase, Kids: []api.Exp{asked}, Alts: alts}
}
func bind(name string, body api.Exp, args ...string) api.Bind {
	return api.Bind{Name: name, Form: fun(body, args...)}
}
func fun(body api.Exp, args ...string) api.Form { return api.Form{Args: args, Body: body} }
func onCon(name string, body api.Exp, vars ...string) api.Alt {
	return api.Alt{Kind: api.ACon, Name: name, Vars: vars, Body: body}
}
func onInt(n int64, body api.Exp) api.Alt     { return api.Alt{Kind: api.AInt, N: n, Body: body} }
func onAll(name string, body api.Exp) api.Alt { return api.Alt{Kind: api.AAll, Name: name, Body: body} }
func named(name string) api.Atom              { return api.Atom{Name: name} }
func atom(n int64) api.Atom                   { return api.Atom{N: n} }

// Numbers of int that are no kind of expressions, nor of alternatives; the lower half of some is one.
var noKinds = []int{
	math.MinInt, math.MinInt + 1, math.MinInt + 5, -1 << 32, -1<<32 + 1, -1 << 31, -6, -5, -4, -3, -2, -1, 0, 7, 8, 255, 257, 260, 261,
	1<<16 + 3, 1<<31 - 1, 1 << 32, 1<<32 + 1, 1<<32 + 2, 1<<32 + 3, 1<<32 + 5, 1<<32 + 6, math.MaxInt - 1, math.MaxInt,
}

func TestExamples(t *testing.T) {
	wantFree(t, form(t, `\ x -> f x y f`), "f", "y")
	wantField(t, form(t, "case p of { C a b -> b; }"), pick{"C", 1, "p", true})
	if l := vars.Free(form(t, `\ x -> f x y f`)); strings.Join(l, " ") != "f y" {
		t.Error(l)
	}
	if l := vars.Within(form(t, `\ x -> f x y f`).Body); strings.Join(l, " ") != "f x y" {
		t.Error(l)
	}
	if told := fieldOf(form(t, "case p of { C a b -> b; }")); told != (pick{"C", 1, "p", true}) {
		t.Error(told)
	}
}

// P10.1.

// read is a form's text, and its free names with blanks between.
type read struct{ s, names string }

func holdReads(t *testing.T, l []read) {
	t.Helper()
	for _, c := range l {
		wantFree(t, form(t, c.s), strings.Fields(c.names)...)
	}
}

func TestReadingByKind(t *testing.T) {
	holdReads(t, []read{
		{"f", "f"},
		{"f x", "f x"},
		{"x f", "x f"},
		{"f c b a", "f c b a"},
		{"f a b a f b", "f a b"},
		{"f f", "f"},
		{"f 1 x 2", "f x"},
		{"f 0", "f"},
		{"C", ""},
		{"C x", "x"},
		{"C b a b 0 c", "b a c"},
		{"C 1 2", ""},
		{"#add x y", "x y"},
		{"#add y x", "y x"},
		{"#add x x", "x"},
		{"#add 1 x", "x"},
		{"#no", ""},
		{"5", ""},
		{"0", ""},
		{"-9223372036854775808", ""},
		{"let { x = 1; } in 2", ""},
		{"let { x = a; } in b", "a b"},
		{"let { x = b; } in a", "b a"},
		{"let { x = c; y = b; } in a", "c b a"},
		{"let { x = c a; y = b c; } in a d", "c a b d"},
		{"let { x = let { y = a; } in b; } in let { z = c; } in d", "a b c d"},
		{"case a of { 1 -> b; }", "a b"},
		{"case b of { 1 -> a; }", "b a"},
		{"case d of { 1 -> c; C -> b; x -> a; }", "d c b a"},
		{"case d e of { 1 -> c d; C -> b e; x -> a b; }", "d e c b a"},
		{"case case a of { 1 -> b; } of { 2 -> case c of { 3 -> d; }; x -> e; }", "a b c d e"},
		{"case let { x = a; } in b of { 1 -> let { y = c; } in d; }", "a b c d"},
		{"let { x = case a of { 1 -> b; }; } in case c of { 1 -> d; }", "a b c d"},
	})
}

func TestBoundNames(t *testing.T) {
	holdReads(t, []read{
		// A form's arguments, in its body.
		{`\ x -> x`, ""},
		{`\ x -> y`, "y"},
		{`\ x y -> y x`, ""},
		{`\ f -> f f g f`, "g"},
		{`\ x -> let { y = x; } in x y`, ""},
		{`\ x -> case x of { 1 -> x; y -> y x; }`, ""},
		// Those of an inner form, there alone.
		{`let { f = \ x -> x y; } in x`, "y x"},
		{`let { f = \ x -> x; g = x; } in 1`, "x"},
		{`let { g = x; f = \ x -> x y; } in 1`, "x y"},
		{`let { f = \ x y -> x y z; } in f`, "z"},
		{`let { f = \ x -> let { g = \ y -> x y z; } in x y; } in x`, "z y x"},
		// A let's binds, in all their forms and its body.
		{"let { x = x; } in x", ""},
		{"let { x = y; y = x; } in z", "z"},
		{"let { x = y; y = z; z = x; } in x y z w", "w"},
		{"let { x = let { y = x z; } in y; z = y; } in 1", "y"},
		{"let { x = let { y = 1; } in x y; } in y", "y"},
		{"let { f = let { x = 1; } in x; } in x", "x"},
		{`let { f = \ x -> f x; } in f`, ""},
		// An alternative's variables, in its body.
		{"case x of { C x -> x; }", "x"},
		{"case 1 of { C x -> x; }", ""},
		{"case 1 of { C x y -> y x z; }", "z"},
		{"case 1 of { C x -> y; D y -> x; }", "y x"},
		{"case 1 of { C x -> x; 1 -> x; }", "x"},
		{"case 1 of { C x -> x; y -> x y; }", "x"},
		{"case 1 of { C x -> case x of { D y -> x y; E -> x y; }; }", "y"},
		// An alternative's name, if it takes all.
		{"case x of { x -> x; }", "x"},
		{"case 1 of { x -> x; }", ""},
		{"case 1 of { x -> y; }", "y"},
		{"case 1 of { 1 -> x; x -> x; }", "x"},
		{"case case 1 of { x -> x; } of { y -> x y; }", "x"},
	})
}

// An inner one of the same name binds it once more, and the outer one does behind it.
func TestBoundWithinBound(t *testing.T) {
	holdReads(t, []read{
		{`\ x -> let { f = \ x -> x; } in x`, ""},
		{`\ x -> let { x = x; } in x`, ""},
		{`\ x -> case case 1 of { x -> x; } of { y -> x; }`, ""},
		{`\ x -> case 1 of { C x -> x; D -> x; x -> x; }`, ""},
		{`\ x -> case 1 of { x -> x; }`, ""},
		{"let { x = let { x = x; } in x; } in x", ""},
		{"let { x = 1; } in case case 1 of { C x -> x; } of { D -> x; }", ""},
		{`let { x = 1; } in let { f = \ x -> x; g = x; } in x`, ""},
		{"case 1 of { x -> case let { x = 1; } in x of { 1 -> x; }; }", ""},
		{"case 1 of { C x -> case case 1 of { C x -> x; } of { 1 -> x; }; 2 -> x; }", "x"},
		{`case let { f = \ x -> x; } in 1 of { C x -> let { x = x; } in x; y -> x; }`, "x"},
		{"case let { x = let { x = 1; } in x; } in x of { 1 -> x; }", "x"},
	})
}

// Where it is free, and where it is not: in each place of each kind, with something that binds it anywhere else.
func TestFreeBesideBound(t *testing.T) {
	bound := []string{"let { x = x; } in x", `let { f = \ x -> x; } in 1`, "case 1 of { C x -> x; }", "case 1 of { x -> x; }"}
	for _, b := range bound {
		holdReads(t, []read{
			{b, ""},
			{"case " + b + " of { 1 -> x; }", "x"},
			{"case " + b + " of { 1 -> y; }", "y"},
			{"case x of { 1 -> " + b + "; }", "x"},
			{"case 1 of { 1 -> " + b + "; 2 -> x; }", "x"},
			{"case 1 of { 1 -> y x; 2 -> " + b + "; }", "y x"},
			{"let { y = " + b + "; } in x", "x"},
			{"let { y = " + b + "; z = x; } in y", "x"},
			{"let { z = x; y = " + b + "; } in y z", "x"},
			{"let { y = x; } in " + b, "x"},
			{`let { y = \ z -> ` + b + "; } in z", "z"},
		})
	}
}

// No text has these trees: names that are empty or no words, lists that are nil, and fields that a kind does not name.
func TestTreesWithoutTexts(t *testing.T) {
	wantFree(t, api.Form{})
	wantFree(t, fun(app("")))
	wantFree(t, fun(app("", named("x"))), "x")
	wantFree(t, fun(app("f", named(""), api.Atom{Name: "x", N: 7}, atom(math.MinInt64), named(""))), "f", "x")
	wantFree(t, fun(con("x", atom(math.MaxInt64), named(""))))
	wantFree(t, fun(prim("x", named("x"), named("#add"))), "x", "#add")
	wantFree(t, fun(app(" ", named("C"), named("let"), named("\xff"), named("\xff\x00"), named("\x00"), named("x\n"))), " ", "C", "let", "\xff", "\xff\x00", "\x00", "x\n")
	wantFree(t, fun(app(" ", named("\x00"), named("")), " ", "", "\x00"))
	wantFree(t, fun(app("f", named("x")), "x", "x", "", "y"), "f")
	wantFree(t, fun(app("ff", named("fff"), named("F")), "f"), "ff", "fff", "F")

	// An empty name binds nothing, and what stands behind it is bound all the same.
	wantFree(t, fun(let(app("x"), bind("", app("y")), bind("x", app("")))), "y")
	wantFree(t, fun(let(app("x"), bind("x", app("x")), bind("x", app("x"), "x", "x")), "x"))
	wantFree(t, fun(choice(app("x"), onCon("C", app("y", named("z")), "y", "", "y"), onAll("", app("y")))), "x", "z", "y")

	// A constructor's name binds nothing, nor does one that the kind does not name.
	wantFree(t, fun(choice(num(1), onCon("x", app("x")))), "x")
	wantFree(t, fun(choice(num(1), api.Alt{Kind: api.AInt, Name: "x", Vars: []string{"y"}, Body: app("x", named("y"))})), "x", "y")
	wantFree(t, fun(choice(num(1), api.Alt{Kind: api.AAll, Name: "x", Vars: []string{"y"}, Body: app("x", named("y"))})), "y")
	wantFree(t, fun(con("x", named("C"))), "C")

	// Behind one that takes all, and of a constructor once more: read all the same.
	wantFree(t, fun(choice(app("a"), onAll("x", app("b")), onAll("y", app("x")), onCon("C", app("c")), onCon("C", app("d")))), "a", "b", "x", "c", "d")

	// Of Kids the first, if there is one; lists may be nil.
	for _, kids := range [][]api.Exp{nil, {}, make([]api.Exp, 0, 3)} {
		wantFree(t, fun(api.Exp{Kind: api.XLet, Kids: kids}))
		wantFree(t, fun(api.Exp{Kind: api.XCase, Kids: kids}))
		wantFree(t, fun(api.Exp{Kind: api.XLet, Kids: kids, Binds: []api.Bind{bind("x", app("x", named("y")))}}), "y")
		wantFree(t, fun(api.Exp{Kind: api.XCase, Kids: kids, Alts: []api.Alt{onAll("x", app("x", named("y")))}}), "y")
	}
	more := []api.Exp{app("x"), app("y"), app("z")}
	wantFree(t, fun(api.Exp{Kind: api.XLet, Kids: more}), "x")
	wantFree(t, fun(api.Exp{Kind: api.XCase, Kids: more}), "x")
	wantFree(t, fun(api.Exp{Kind: api.XLet, Kids: more, Binds: []api.Bind{bind("x", num(1))}}))
}

// full is an expression in whose every field there is a name of its own.
func full(kind int) api.Exp {
	return api.Exp{
		Kind: kind, At: math.MinInt, Name: "name", N: math.MinInt64,
		Atoms: []api.Atom{{Name: "atom", N: 7}, {N: 7}},
		Binds: []api.Bind{{Name: "bound", At: math.MaxInt, Form: fun(app("bind", named("bound")))}},
		Kids:  []api.Exp{app("kid", named("bound")), app("next")},
		Alts: []api.Alt{
			{Kind: api.AInt, Name: "n", Vars: []string{"v"}, Body: app("int", named("n"), named("v"))},
			{Kind: api.ACon, Name: "n", Vars: []string{"v"}, Body: app("con", named("n"), named("v"))},
			{Kind: api.AAll, Name: "n", Vars: []string{"v"}, Body: app("all", named("n"), named("v"))},
		},
	}
}

func TestFieldsThatAKindDoesNotName(t *testing.T) {
	wantFree(t, fun(full(api.XApp)), "name", "atom")
	wantFree(t, fun(full(api.XCon)), "atom")
	wantFree(t, fun(full(api.XPrim)), "atom")
	wantFree(t, fun(full(api.XInt)))
	wantFree(t, fun(full(api.XLet)), "bind", "kid")
	wantFree(t, fun(full(api.XCase)), "kid", "bound", "int", "n", "v", "con", "all")
}

func TestKindsThatAreNone(t *testing.T) {
	for _, kind := range noKinds {
		wantFree(t, fun(full(kind)))
		wantFree(t, fun(let(full(kind), bind("f", full(kind)), bind("g", app("x")))), "x")
		wantFree(t, fun(choice(full(kind), onInt(1, full(kind)), onInt(1, app("x")))), "x")
	}
	for _, kind := range append([]int{4, 5, 6}, noKinds...) { // some are kinds of expressions, not of alternatives
		a := api.Alt{Kind: kind, Name: "x", Vars: []string{"y"}, Body: app("x", named("y"), named("z"))}
		wantFree(t, fun(choice(app("a"), a, onAll("b", app("c")))), "a", "c")
	}
}

// P10.2.

func TestField(t *testing.T) {
	for s, want := range map[string]pick{
		"case p of { C a -> a; }":               {"C", 0, "p", true},
		"case p of { C a b c -> a; }":           {"C", 0, "p", true},
		"case p of { C a b c -> b; }":           {"C", 1, "p", true},
		"case p of { C a b c -> c; }":           {"C", 2, "p", true},
		"case p of { D a b c d e f g h -> h; }": {"D", 7, "p", true},
		"case (p) of { C a -> (a); }":           {"C", 0, "p", true},
		"case p of { C p -> p; }":               {"C", 0, "p", true},
		"case p of { C a p -> a; }":             {"C", 0, "p", true},
		"case p of { C a a -> a; }":             {"C", 1, "p", true},
		"case p of { C a b a -> a; }":           {"C", 2, "p", true},
		"case p of { C a a b -> a; }":           {"C", 1, "p", true},
		"case p of { C a b a -> b; }":           {"C", 1, "p", true},
		"case p of { C a a a -> a; }":           {"C", 2, "p", true},

		`\ p -> case p of { C a -> a; }`:                      {},
		`\ x -> case p of { C a -> a; }`:                      {},
		"case p 1 of { C a -> a; }":                           {},
		"case p x of { C a -> a; }":                           {},
		"case C of { C a -> a; }":                             {},
		"case #p of { C a -> a; }":                            {},
		"case 1 of { C a -> a; }":                             {},
		"case let { x = 1; } in p of { C a -> a; }":           {},
		"case case p of { C a -> a; } of { C a -> a; }":       {},
		"case p of { 1 -> a; }":                               {},
		"case p of { a -> a; }":                               {},
		"case p of { C a -> a 1; }":                           {},
		"case p of { C a -> a a; }":                           {},
		"case p of { C a -> C; }":                             {},
		"case p of { C a -> #a; }":                            {},
		"case p of { C a -> 1; }":                             {},
		"case p of { C a -> let { x = 1; } in a; }":           {},
		"case p of { C a -> case a of { C a -> a; }; }":       {},
		"case p of { C -> p; }":                               {},
		"case p of { C -> a; }":                               {},
		"case p of { C a -> p; }":                             {},
		"case p of { C a -> b; }":                             {},
		"case p of { C a -> aa; }":                            {},
		"case p of { C aa -> a; }":                            {},
		"case p of { C a -> a; D b -> b; }":                   {},
		"case p of { C a -> a; C a -> a; }":                   {},
		"case p of { C a -> a; x -> x; }":                     {},
		"case p of { 1 -> p; C a -> a; }":                     {},
		"p":                                                   {},
		"C p":                                                 {},
		"#add p p":                                            {},
		"7":                                                   {},
		"let { q = 1; } in case p of { C a -> a; }":           {},
		"let { x = case p of { C a -> a; }; } in x":           {},
		"case case p of { C a b -> a; } of { C a b -> a b; }": {},
	} {
		wantField(t, form(t, s), want)
	}
}

func TestFieldOfTreesWithoutTexts(t *testing.T) {
	picks := func() api.Form { return fun(choice(app("p"), onCon("C", app("a"), "b", "a"))) }
	want := pick{"C", 1, "p", true}
	wantField(t, picks(), want)
	wantField(t, api.Form{}, pick{})

	// What no kind names is not looked at, nor are other Kids; a list without an element may be empty.
	f := picks()
	f.Args = []string{}
	f.Body.Kids = append(f.Body.Kids, full(api.XLet), full(api.XApp))
	f.Body.At, f.Body.Name, f.Body.N, f.Body.Atoms, f.Body.Binds = 3, "q", 4, []api.Atom{named("x")}, full(5).Binds
	f.Body.Kids[0].N, f.Body.Kids[0].Kids, f.Body.Kids[0].Alts, f.Body.Kids[0].Atoms = 9, full(5).Kids, full(6).Alts, []api.Atom{}
	f.Body.Alts[0].N = math.MaxInt64
	f.Body.Alts[0].Body.N, f.Body.Alts[0].Body.Kids, f.Body.Alts[0].Body.Atoms = 9, full(5).Kids, []api.Atom{}
	wantField(t, f, want)

	// Names that are empty or no words are names; only the text counts.
	wantField(t, fun(choice(app(""), onCon("", app("a"), "a"))), pick{"", 0, "", true})
	wantField(t, fun(choice(app("p"), onCon("C", app(""), "a", "", "b"))), pick{"C", 1, "p", true})
	wantField(t, fun(choice(app("p"), onCon("C", app(""), "a"))), pick{})
	wantField(t, fun(choice(app("\xff"), onCon("\x00", app("\xfe"), "\xff", "\xfe"))), pick{"\x00", 1, "\xff", true})

	// One argument, even an empty one; one atom, even a number; none of Kids, no alternative.
	wrongs := []func(f *api.Form){
		func(f *api.Form) { f.Args = []string{""} },
		func(f *api.Form) { f.Body.Kids[0].Atoms = []api.Atom{{}} },
		func(f *api.Form) { f.Body.Alts[0].Body.Atoms = []api.Atom{{}} },
		func(f *api.Form) { f.Body.Kids = nil },
		func(f *api.Form) { f.Body.Kids = f.Body.Kids[:0] },
		func(f *api.Form) { f.Body.Kids = []api.Exp{num(1), app("p")} },
		func(f *api.Form) { f.Body.Alts = nil },
		func(f *api.Form) { f.Body.Alts = f.Body.Alts[:0] },
		func(f *api.Form) { f.Body.Alts = append(f.Body.Alts, api.Alt{}) },
		func(f *api.Form) { f.Body.Alts = append(f.Body.Alts, f.Body.Alts[0]) },
		func(f *api.Form) { f.Body.Alts[0].Vars = nil },
		func(f *api.Form) { f.Body.Alts[0].Vars = []string{"b"} },
		func(f *api.Form) { f.Body.Alts[0].Vars, f.Body.Alts[0].Body.Name = nil, "" },
	}
	for _, kind := range append([]int{1, 2, 3, 4, 5}, noKinds...) {
		wrongs = append(wrongs, func(f *api.Form) { f.Body.Kind = kind })
		if kind != api.XApp {
			wrongs = append(wrongs, func(f *api.Form) { f.Body.Kids[0].Kind = kind }, func(f *api.Form) { f.Body.Alts[0].Body.Kind = kind })
		}
		if kind != api.ACon {
			wrongs = append(wrongs, func(f *api.Form) { f.Body.Alts[0].Kind = kind })
		}
	}
	for _, wrong := range wrongs {
		f := picks()
		wrong(&f)
		wantField(t, f, pick{})
	}
}

// P10.3.

func TestClass(t *testing.T) {
	for s, class := range map[string]int{
		`\ x -> x`:                       api.KFun,
		`\ x -> C x`:                     api.KFun,
		`\ x -> 1`:                       api.KFun,
		`\ x -> case p of { C a -> a; }`: api.KFun,
		`\ x -> let { y = 1; } in y`:     api.KFun,
		`\ a b c d e f g h -> #add a b`:  api.KFun,

		"C":       api.KCon,
		"C x 1":   api.KCon,
		"(C x)":   api.KCon,
		"0":       api.KInt,
		"-7":      api.KInt,
		"(((7)))": api.KInt,

		"case p of { C a -> a; }":     api.KSel,
		"case p of { C a b a -> a; }": api.KSel,

		"f":                               api.KThunk,
		"f x":                             api.KThunk,
		"#add 1 2":                        api.KThunk,
		"#ref x":                          api.KThunk,
		"let { x = 1; } in x":             api.KThunk,
		"let { x = C; } in 1":             api.KThunk,
		"let { x = 1; } in C":             api.KThunk,
		"case p of { C a -> b; }":         api.KThunk,
		"case p of { C a -> C a; }":       api.KThunk,
		"case p of { C a -> 1; }":         api.KThunk,
		"case p of { a -> a; }":           api.KThunk,
		"case p 1 of { C a -> a; }":       api.KThunk,
		"case p of { C a -> a; x -> x; }": api.KThunk,
		"case 1 of { 1 -> 1; }":           api.KThunk,
	} {
		wantClass(t, form(t, s), class)
	}
	wantClass(t, api.Form{}, api.KThunk)
	wantClass(t, api.Form{Args: []string{}, Body: num(1)}, api.KInt)
	wantClass(t, api.Form{Args: make([]string, 0, 4), Body: con("")}, api.KCon)
	wantClass(t, fun(num(1), ""), api.KFun)
	for _, kind := range noKinds {
		wantClass(t, fun(full(kind)), api.KThunk)
		wantClass(t, fun(full(kind), "x"), api.KFun)
	}
	// Of each kind, with all that it does not name.
	for kind, class := range map[int]int{1: api.KThunk, 2: api.KCon, 3: api.KThunk, 4: api.KInt, 5: api.KThunk, 6: api.KThunk} {
		wantClass(t, fun(full(kind)), class)
		x := choice(app("p"), onCon("C", app("a"), "a"))
		x.Kind = kind
		if kind == api.XCase {
			class = api.KSel
		}
		wantClass(t, fun(x), class)
		wantClass(t, fun(x, "a", "b"), api.KFun)
	}
}

// P10.4.

// oneMore holds a form with an argument more, wherever it stands among the others, to what the form has free without it.
func oneMore(t *testing.T, f api.Form, name string) {
	t.Helper()
	var want []string
	for _, free := range vars.Free(f) {
		if free != name {
			want = append(want, free)
		}
	}
	for place := range len(f.Args) + 1 {
		g := api.Form{Args: slices.Insert(slices.Clone(f.Args), place, name), Body: f.Body}
		wantNames(t, "Free of one more, "+name, g, func() []string { return vars.Free(g) }, want)
	}
}

func TestOneArgumentMore(t *testing.T) {
	for _, s := range []string{
		"1", "f", "f x y f", "C a b c", `\ a -> f a b`, `\ a b -> f b a f`,
		"let { a = b; } in a c", "case a of { C b -> b c; d -> d b; }", `let { f = \ a -> a b; } in f a`,
	} {
		for _, name := range []string{"a", "b", "c", "d", "f", "x", "y", "new", "", "C", "aa"} {
			oneMore(t, form(t, s), name)
		}
	}
	wantFree(t, form(t, `\ x -> f x y f`), "f", "y")
	wantFree(t, form(t, `\ x f -> f x y f`), "y")
	wantFree(t, form(t, `\ y x -> f x y f`), "f")
	wantFree(t, form(t, `\ z x -> f x y f`), "f", "y")
}

// P10.5.

// onlyBinds holds the free names of a right program's forms to be its binds'.
func onlyBinds(t *testing.T, p api.Program) {
	t.Helper()
	if at, e := scope.Check(p); e != api.OK {
		t.Fatalf("not right: %d at %d: %s", int(e), at, short(p))
	}
	for _, b := range p.Binds {
		for _, name := range vars.Free(b.Form) {
			if !slices.ContainsFunc(p.Binds, func(o api.Bind) bool { return o.Name == name }) {
				t.Errorf("%q of %s is no bind's: %s", name, b.Name, short(p))
			}
		}
		byModel(t, b.Form)
	}
}

func TestRightPrograms(t *testing.T) {
	for s, free := range map[string]string{ // of all binds' forms, one behind the other
		`main = \ n -> #add n 1;`:                  "",
		"main = let { x = #emit 7; } in #add x x;": "",
		"main = let { x = #add x 1; } in x;":       "",
		`data Nil 0; data Cons 2; from = \ n -> let { k = #add n 1; r = from k; } in Cons n r; main = from 1;`: "from from",
		"data P 2; main = let { p = P 1 q; q = case p of { P a b -> a; }; } in q;":                             "",
		`main = \ n -> case #ref n of { r -> case #set r 9 of { u -> #get r; }; };`:                            "",
		`f = \ a b -> a; main = f 1;`:          "f",
		`spin = \ n -> spin n; main = spin 1;`: "spin spin",
		`data C 1; f = \ x -> case x of { C y -> y; 3 -> g x 1; z -> C z; }; g = \ a b -> f main; main = f g;`: "g f main f g",
		`f = \ f -> f main; main = \ main -> f main; x = \ y -> let { x = x; } in x y;`:                        "main f",
		"main = main;": "main",
	} {
		p := program(t, s)
		onlyBinds(t, p)
		var all []string
		for _, b := range p.Binds {
			all = append(all, vars.Free(b.Form)...)
		}
		if strings.Join(all, " ") != free {
			t.Errorf("%s: %q; want %s", s, all, free)
		}
	}
}
