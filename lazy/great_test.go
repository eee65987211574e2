package lazy_test

import (
	"fmt"
	"strings"
	"testing"

	"midden/api"
	"midden/lazy"
	"midden/tree"
)

// R1 and the bound: as many parts within one another as the document allows, long lists of everything, and long runs.

const deep = 1 << 16

func num(n int64) api.Exp { return api.Exp{Kind: api.XInt, N: n} }

func app(name string, with ...string) api.Exp {
	return api.Exp{Kind: api.XApp, Name: name, Atoms: atoms(with...)}
}

func atoms(names ...string) []api.Atom {
	var l []api.Atom
	for _, name := range names {
		l = append(l, api.Atom{Name: name})
	}
	return l
}

func doing(name string, with ...api.Atom) api.Exp {
	return api.Exp{Kind: api.XPrim, Name: name, Atoms: with}
}

func bindOf(name string, body api.Exp, args ...string) api.Bind {
	return api.Bind{Name: name, Form: api.Form{Args: args, Body: body}}
}

func letIn(body api.Exp, binds ...api.Bind) api.Exp {
	return api.Exp{Kind: api.XLet, Binds: binds, Kids: []api.Exp{body}}
}

func caseOf(x api.Exp, alts ...api.Alt) api.Exp {
	return api.Exp{Kind: api.XCase, Kids: []api.Exp{x}, Alts: alts}
}

func onAll(name string, body api.Exp) api.Alt {
	return api.Alt{Kind: api.AAll, Name: name, Body: body}
}

func onInt(n int64, body api.Exp) api.Alt { return api.Alt{Kind: api.AInt, N: n, Body: body} }

func onCon(name string, body api.Exp, names ...string) api.Alt {
	return api.Alt{Kind: api.ACon, Name: name, Vars: names, Body: body}
}

func wholeProgram(binds ...api.Bind) api.Program {
	return api.Program{Datas: []api.Data{{Name: "Nil"}, {Name: "Box", Arity: 1}}, Binds: binds}
}

// nested puts an expression in others, from the inmost one (1) to the outmost one (deep).
func nested(x api.Exp, around func(x api.Exp, i int) api.Exp) api.Exp {
	for i := 1; i <= deep; i++ {
		x = around(x, i)
	}
	return x
}

func wantGreat(t *testing.T, what string, p api.Program, told string, steps int) {
	t.Helper()
	m := started(t, p)
	h := made(t, m, "main")
	want := result{told, "", steps}
	for range 2 {
		if got := resultOf(m, h, 1, api.MaxFuel); got != want {
			t.Errorf("%s: %+v, not %+v", what, got, want)
		}
	}
	if got := resultOf(m, h, 0, 0); got.told != "_" {
		t.Errorf("%s: %+v", what, got)
	}
	m = started(t, p)
	if got := resultOf(m, made(t, m, "main"), 1, steps-1); got != (result{"fuel", "", steps - 1}) {
		t.Errorf("%s: %+v with one step less than %d", what, got, steps)
	}
}

func TestDeepPrograms(t *testing.T) {
	name := func(i int) string { return fmt.Sprint("x", i) }
	wantGreat(t, "lets, each of which needs the one around it", wholeProgram(bindOf("main", nested(app("x1"), func(x api.Exp, i int) api.Exp {
		if i == deep {
			return letIn(x, bindOf(name(i), num(7)))
		}
		return letIn(x, bindOf(name(i), app(name(i+1))))
	}))), "7", 2*deep)
	wantGreat(t, "lets, the inmost of which needs the outmost", wholeProgram(bindOf("main", nested(app(name(deep)), func(x api.Exp, i int) api.Exp {
		return letIn(x, bindOf(name(i), num(int64(i))))
	}))), fmt.Sprint(deep), deep+1)
	wantGreat(t, "lets of one name", wholeProgram(bindOf("main", nested(app("x"), func(x api.Exp, i int) api.Exp {
		return letIn(x, bindOf("x", num(int64(i))))
	}))), "1", deep+1)
	wantGreat(t, "needs within one another", wholeProgram(bindOf("main", nested(num(5), func(x api.Exp, i int) api.Exp {
		return letIn(app("x"), bindOf("x", x))
	}))), "5", 2*deep) // the inmost let has a number, and no need
	wantGreat(t, "functions within one another", wholeProgram(bindOf("main", nested(app(name(deep)), func(x api.Exp, i int) api.Exp {
		return letIn(api.Exp{Kind: api.XApp, Name: "f", Atoms: []api.Atom{{N: int64(i)}}}, bindOf("f", x, name(i)))
	}))), fmt.Sprint(deep), 2*deep+1)
	wantGreat(t, "cases that ask cases", wholeProgram(bindOf("main", nested(num(3), func(x api.Exp, i int) api.Exp {
		return caseOf(x, onAll("x", doing("#add", api.Atom{Name: "x"}, api.Atom{N: 1})))
	}))), fmt.Sprint(deep+3), 2*deep+1)
	wantGreat(t, "cases in alternatives of all", wholeProgram(bindOf("main", nested(app(name(deep)), func(x api.Exp, i int) api.Exp {
		return caseOf(num(int64(i)), onAll(name(i), x))
	}))), fmt.Sprint(deep), 2*deep+1)
	wantGreat(t, "cases in alternatives of numbers", wholeProgram(bindOf("main", nested(app("main1"), func(x api.Exp, i int) api.Exp {
		return caseOf(num(int64(i)), onInt(int64(i), x))
	})), bindOf("main1", num(4))), "4", 2*deep+2)
	wantGreat(t, "cases in alternatives of constructors", wholeProgram(bindOf("main", nested(app(name(deep)), func(x api.Exp, i int) api.Exp {
		return caseOf(api.Exp{Kind: api.XCon, Name: "Box", Atoms: []api.Atom{{N: int64(i)}}}, onCon("Nil", num(1)), onCon("Box", x, name(i)))
	}))), fmt.Sprint(deep), 2*deep+1)
}

// Names that are bound far around are found again and again, at whatever distance.
func TestFarNames(t *testing.T) {
	name := func(i int) string { return fmt.Sprint("x", i) }
	// loop has all of these around it; it adds up the numbers of some of them, at each turn.
	some := []int{1, 2, 3, 4, 7, 8, 100, 1000, 4095, 4096, 4097, deep / 2, deep - 1, deep}
	sum, turns := int64(0), int64(20000)
	body := app("next", "s")
	for _, i := range some {
		sum += int64(i)
		body = caseOf(doing("#add", api.Atom{Name: "s"}, api.Atom{Name: name(i)}), onAll("s", body))
	}
	next := letIn(app("loop", "k", "s"), bindOf("k", doing("#sub", api.Atom{Name: "n"}, api.Atom{N: 1})))
	body = letIn(body, bindOf("next", next, "s"))
	body = caseOf(app("n"), onInt(0, app("s")), onAll("m", body))
	start := api.Exp{Kind: api.XApp, Name: "loop", Atoms: []api.Atom{{N: turns}, {N: 0}}}
	x := letIn(start, bindOf("loop", body, "n", "s"))
	main := nested(x, func(x api.Exp, i int) api.Exp { return letIn(x, bindOf(name(i), num(int64(i)))) })
	m := started(t, wholeProgram(bindOf("main", main)))
	// Of each turn: case, n, let, next, let, loop, two for each name; k at all but the first.
	want := result{fmt.Sprint(sum * turns), "", deep + 2 + int(turns)*(7+2*len(some)) + 3}
	if got := resultOf(m, made(t, m, "main"), 1, api.MaxFuel); got != want {
		t.Errorf("%+v, not %+v", got, want)
	}
}

func TestLongPrograms(t *testing.T) {
	const n = 1 << 17
	name := func(i int) string { return fmt.Sprint("x", i) }
	var binds []api.Bind
	var alts []api.Alt
	var datas []api.Data
	for i := range n {
		binds = append(binds, bindOf(name(i), app(name(i+1))))
		alts = append(alts, onInt(int64(i), num(int64(i+1))))
		datas = append(datas, api.Data{Name: fmt.Sprint("C", i)})
	}
	end := bindOf(name(n), num(9))
	wantGreat(t, "binds of the program", wholeProgram(append(binds, end, bindOf("main", app("x0")))...), "9", n+2)
	wantGreat(t, "binds of a let", wholeProgram(bindOf("main", letIn(app("x0"), append(binds, end)...))), "9", n+2)
	// Alternatives: the last one is as near as the first.
	loop := bindOf("loop", caseOf(app("f", "n"), onInt(n, num(1)), onAll("m", app("loop", "m"))), "n")
	start := bindOf("main", api.Exp{Kind: api.XApp, Name: "loop", Atoms: []api.Atom{{N: 0}}})
	wantGreat(t, "alternatives", wholeProgram(bindOf("f", caseOf(app("n"), alts...), "n"), loop, start), "1", 6*n+1)
	p := wholeProgram(bindOf("main", api.Exp{Kind: api.XCon, Name: fmt.Sprint("C", n-1)}))
	p.Datas = datas
	wantGreat(t, "datas", p, fmt.Sprint("C", n-1), 1)
	long := strings.Repeat("x", 1<<20)
	wantGreat(t, "a long name", wholeProgram(bindOf(long, num(6)), bindOf("main", app(long))), "6", 2)
}

func greatText(t *testing.T, s string, name string, with []int64, fuel int) (*lazy.Machine, int, result) {
	t.Helper()
	m := started(t, program(t, s))
	h := made(t, m, name, with...)
	return m, h, resultOf(m, h, 1, fuel)
}

func TestLongRuns(t *testing.T) {
	const full = api.MaxFuel
	// Runs that never end, whatever they leave behind them: what waits, what is in work, constructors, arrays, scopes.
	for _, s := range []string{
		`f = \ n -> f n; main = f 1;`,
		`f = \ n -> let { k = #add n 1; } in f k; main = f 1;`,
		`f = \ n -> let { k = f n; } in #add k 1; main = f 1;`,
		`f = \ n -> case f n of { x -> 1; }; main = f 1;`,
		`f = \ n -> let { k = f n; } in k 1 2 3 4 5 6 7; main = f 1;`,
		`f = \ n -> f n n; main = f 1;`,
		`f = \ a -> let { g = \ b -> f a; } in g a a; main = f 1;`,
		`data C 2; f = \ n -> let { c = C n n; } in f c; main = f 1;`,
		`f = \ n -> case #arr 1024 n of { a -> case #put a 5 n of { u -> f a; }; }; main = f 1;`,
		`f = \ n -> case #ref n of { r -> f r; }; main = f 1;`,
		`f = \ a b c -> let { g = f a b; } in g c; main = f 1 2 3;`,
		`f = \ n -> let { g = \ m -> f n; } in g n; main = f 1;`,
	} {
		m, h, got := greatText(t, s, "main", nil, full)
		if got != (result{"fuel", "", full}) {
			t.Errorf("%s: %+v", s, got)
		}
		if again := shown(m.Show(h, 1, full)); again != "error 9" {
			t.Errorf("%s: %s", s, again)
		}
	}
	// Runs that end at the last step.
	down := `f = \ n -> case n of { 0 -> 0; m -> let { k = #sub m 1; r = f k; } in #add r 1; }; main = f 1; bad = \ n -> case n of { 0 -> #div 1 0; m -> let { k = #sub m 1; r = bad k; } in #add r 1; };`
	for name, told := range map[string]string{"f": "170000", "bad": "fail 40"} {
		m, h, got := greatText(t, down, name, []int64{170000}, full)
		// Of each but the last: case, n, let, #add, r; k of each but the first. Of the last: case, n, 0.
		if want := (result{told, "", 6*170000 + 3}); got != want {
			t.Errorf("%s: %+v, not %+v", name, got, want)
		}
		if again := resultOf(m, h, 1, 0); again != got {
			t.Errorf("%s again: %+v, not %+v", name, again, got)
		}
	}
}

// A great many that are in work fail, each with the error, and each is shown so.
func TestManyFail(t *testing.T) {
	const n = 1 << 16
	for told, last := range map[string]api.Exp{"fail 40": doing("#div", api.Atom{N: 1}, api.Atom{N: 0}), "loop": app("x5"), "fail 43": app("y", "x0"), "fail 42": caseOf(num(1), onInt(2, num(2)))} {
		var binds []api.Bind
		for i := range n {
			binds = append(binds, bindOf(fmt.Sprint("x", i), doing("#add", api.Atom{Name: fmt.Sprint("x", i+1)}, api.Atom{N: 1})))
		}
		p := wholeProgram(append(binds, bindOf(fmt.Sprint("x", n), last), bindOf("y", num(1)), bindOf("main", app("x0")))...)
		m := started(t, p)
		first := resultOf(m, made(t, m, "main"), 1, api.MaxFuel)
		if first.told != told {
			t.Errorf("%+v, not %s", first, told)
		}
		for _, i := range []int{0, 1, 2, 1000, n / 2, n - 1, n} {
			if got := resultOf(m, made(t, m, fmt.Sprint("x", i)), 1, 0); got != first {
				t.Errorf("x%d: %+v, not %+v", i, got, first)
			}
		}
	}
}

// Many handles, made and dropped.
func TestManyHandles(t *testing.T) {
	m := started(t, program(t, `f = \ n -> #emit n; main = 1;`))
	const n = 1 << 16
	for i := 1; i <= n; i++ {
		if h, e := m.Make("f", []int64{int64(i)}); h != i || e != api.OK {
			t.Fatal(h, int(e))
		}
	}
	for i := n; i > 0; i -= 3 {
		if got := shown(m.Show(i, 1, 1)); got != fmt.Sprint(i) {
			t.Fatalf("%d: %s", i, got)
		}
		if e := m.Drop(i); e != api.OK {
			t.Fatal(int(e))
		}
		if got := shown(m.Show(i, 1, 1)); got != "error 60" {
			t.Fatalf("%d: %s", i, got)
		}
	}
	if len(m.Out()) != (n+2)/3 || m.Steps() != (n+2)/3 || m.Out()[0] != n {
		t.Errorf("%d, %d", len(m.Out()), m.Steps())
	}
}

// As great as a text can be.
func TestGreatTexts(t *testing.T) {
	lines := []line{
		{"main = " + strings.Repeat("let { x = 1; } in ", 59) + "x;", nil, "1", nil, 60},
		{"main = " + strings.Repeat("let { x = ", 59) + "1" + strings.Repeat("; } in x", 59) + ";", nil, "1", nil, 118},
		{"main = " + strings.Repeat("case ", 59) + "1" + strings.Repeat(" of { x -> x; }", 59) + ";", nil, "1", nil, 119},
		{"main = " + strings.Repeat("case 1 of { x -> ", 59) + "x" + strings.Repeat("; }", 59) + ";", nil, "1", nil, 119},
		{`main = ` + strings.Repeat(`let { f = \ x -> `, 59) + "x" + strings.Repeat("; } in f 1", 59) + ";", nil, "1", nil, 119},
	}
	for _, l := range lines {
		if _, _, e := tree.Parse(l.text); e != api.OK {
			t.Fatal(int(e), l.text)
		}
	}
	holdLines(t, "", lines)
	many := ""
	for i := range 700 {
		many += fmt.Sprintf("x%d = #add x%d 1; ", i, i+1)
	}
	holdLines(t, "", []line{{many + "x700 = 0; main = x0;", nil, "700", nil, 702}})
}
