package scope_test

import (
	"fmt"
	"slices"
	"strings"
	"testing"

	"midden/api"
	"midden/scope"
	"midden/tree"
)

// R1 and the bound: as many parts within one another as the document allows, and long lists of everything.

func wantGreat(t *testing.T, what string, p api.Program, w fault) {
	t.Helper()
	if at, e := scope.Check(p); at != w.at || e != w.e {
		t.Errorf("%s: %d, %d; want %d, %d", what, at, int(e), w.at, int(w.e))
	}
}

// The ways down: each puts an expression within another that binds x.
var waysDown = map[string]func(x api.Exp, name string) api.Exp{
	"a let's body":   func(x api.Exp, name string) api.Exp { return let(1, x, bind(2, name, num(3, 1))) },
	"a let's form":   func(x api.Exp, name string) api.Exp { return let(1, num(3, 1), bind(2, name, x)) },
	"a function":     func(x api.Exp, name string) api.Exp { return let(1, num(3, 1), bind(2, "f", x, name)) },
	"what is asked":  func(x api.Exp, name string) api.Exp { return choice(1, x, onAll(2, name, num(3, 1))) },
	"a con's body":   func(x api.Exp, name string) api.Exp { return choice(1, num(3, 1), onCon(2, "C", x, name)) },
	"an int's body":  func(x api.Exp, name string) api.Exp { return choice(1, num(3, 1), onInt(2, 5, x)) },
	"all the others": func(x api.Exp, name string) api.Exp { return choice(1, num(3, 1), onAll(2, name, x)) },
}

func TestDeepPrograms(t *testing.T) {
	const deep = 1 << 16
	for way, down := range waysDown {
		binding := way != "what is asked" && way != "an int's body"
		for _, own := range []bool{false, true} { // each scope with a name of its own, or all with the same
			right, wrong, again := app(9, "main"), app(7, "no"), num(9, 1)
			if binding {
				right = app(9, "x0")
			}
			for i := range deep {
				name := "x0"
				if own {
					name = fmt.Sprint("x", i)
				}
				right, wrong, again = down(right, name), down(wrong, name), down(again, name)
			}
			wantGreat(t, way, of(right), fault{})
			wantGreat(t, way, of(wrong), fault{7, api.ErrName})
			behind := of(again) // nothing of it is in scope any more
			behind.Binds = append(behind.Binds, bind(10, "next", app(8, "x0")))
			wantGreat(t, way, behind, fault{8, api.ErrName})
		}
	}
}

func TestLongPrograms(t *testing.T) {
	const n = 1 << 17
	var p api.Program
	calls := choice(1, num(1, 1))
	group := let(1, num(1, 1))
	for i := range n {
		name, next := fmt.Sprint("x", i), fmt.Sprint("x", (i+1)%n)
		p.Datas = append(p.Datas, data(i+1, "D"+name, i%9))
		p.Binds = append(p.Binds, bind(i+1, name, app(1, next, named(name))))
		group.Binds = append(group.Binds, bind(i+1, name, app(1, next, named(name)), "a", "b"))
		if i%2 == 0 {
			calls.Alts = append(calls.Alts, onInt(i+1, int64(i), con(1, "D"+name, slices.Repeat([]api.Atom{named(next)}, i%9)...)))
		} else {
			vars := []string{"a", "b", "c", "d", "e", "f", "g", "h"}[:i%9]
			calls.Alts = append(calls.Alts, onCon(i+1, "D"+name, app(1, next), vars...))
		}
	}
	p.Binds = append(p.Binds, bind(1, "cases", calls), bind(2, "lets", group))
	wantGreat(t, "without main", p, fault{0, api.ErrMain})
	p.Binds = append(p.Binds, bind(3, "main", num(1, 1)))
	wantGreat(t, "with main", p, fault{})

	q := copied(p)
	q.Binds[n].Form.Body.Alts = append(q.Binds[n].Form.Body.Alts, onInt(-7, 0, num(1, 1)))
	wantGreat(t, "an alternative twice", q, fault{-7, api.ErrTwice})
	q = copied(p)
	q.Binds[n+1].Form.Body.Binds = append(q.Binds[n+1].Form.Body.Binds, bind(-7, "x5", num(1, 1)))
	wantGreat(t, "a let's bind twice", q, fault{-7, api.ErrTwice})
	q = copied(p)
	q.Binds = append(q.Binds, bind(-7, "x0", num(1, 1)))
	wantGreat(t, "a bind twice", q, fault{-7, api.ErrTwice})
	q = copied(p)
	q.Datas = append(q.Datas, data(-7, "Dx0", 1))
	wantGreat(t, "a data twice", q, fault{-7, api.ErrTwice})

	for what, x := range map[string]api.Exp{"app": app(7, "main", atomsOf(n)...), "con": con(7, "C", atomsOf(n)...), "prim": prim(7, "#ref", atomsOf(n)...)} {
		wantGreat(t, "atoms of "+what, of(x), fault{7, api.ErrArity})
	}
	wantGreat(t, "arguments", of(let(1, num(1, 1), bind(7, "f", num(1, 1), make([]string, n)...))), fault{7, api.ErrArity})
	wantGreat(t, "variables", of(choice(1, num(1, 1), onCon(7, "C", num(1, 1), make([]string, n)...))), fault{7, api.ErrArity})
	long := strings.Repeat("x", 1<<20)
	wantGreat(t, "a long name", of(let(1, app(2, long), bind(3, long, num(1, 1)))), fault{})
	wantGreat(t, "a long name", of(let(1, app(7, long+"y"), bind(3, long, num(1, 1)))), fault{7, api.ErrName})
}

// As long and as deep as a text can be.
func TestGreatTexts(t *testing.T) {
	for way, s := range map[string]string{
		"lets":  strings.Repeat("let{x=1;}in ", 59) + "x",
		"forms": strings.Repeat(`let{x=\y->`, 59) + "x y" + strings.Repeat(";}in x", 59),
		"cases": strings.Repeat("case main of{x->", 59) + "x" + strings.Repeat(";}", 59),
		"asked": strings.Repeat("case ", 59) + "main" + strings.Repeat(" of{x->x;}", 59),
	} {
		s = "main = " + s + ";"
		p, _ := text(t, s)
		if tree.Deep(p.Binds[0].Form.Body) != api.MaxNest {
			t.Errorf("%s: %d deep", way, tree.Deep(p.Binds[0].Form.Body))
		}
		agree(t, p, fault{})
		at := len(s)
		p, _ = text(t, s+"g = x;")
		agree(t, p, fault{at + 4, api.ErrName})
	}
	var s strings.Builder
	for i := 0; s.Len() < api.MaxBytes-100; i++ {
		fmt.Fprintf(&s, "f%d = f%d;", i, i/2)
	}
	s.WriteString("main = f1;")
	for s.Len() < api.MaxBytes-9 {
		s.WriteString(" ")
	}
	p, _ := text(t, s.String()+"g = main;")
	agree(t, p, fault{})
	p, at := text(t, s.String()+"g = ^mai1;")
	agree(t, p, fault{at, api.ErrName})
}
