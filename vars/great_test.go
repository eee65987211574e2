package vars_test

import (
	"fmt"
	"slices"
	"strings"
	"testing"

	"midden/api"
	"midden/vars"
)

// R1 and the bound: as many parts within one another as the document allows, and long lists of everything.

func wantGreat(t *testing.T, what string, got, want []string) {
	t.Helper()
	if !slices.Equal(got, want) {
		t.Errorf("%s: %d names, %.80q; want %d, %.80q", what, len(got), got[:min(5, len(got))], len(want), want[:min(5, len(want))])
	}
}

// way puts an expression within another that binds a name, and reads another one beside it, where that is not bound.
type way struct {
	what   string
	binds  bool // is the name bound around the inner one?
	behind bool // is the other one read behind it?
	down   func(x api.Exp, name, other string) api.Exp
}

var waysDown = []way{
	{"a let's body", true, false, func(x api.Exp, name, other string) api.Exp {
		return let(x, bind(name, app(other)))
	}},
	{"a let's form", true, true, func(x api.Exp, name, other string) api.Exp {
		return let(app(other), bind(name, x))
	}},
	{"a function", true, true, func(x api.Exp, name, other string) api.Exp {
		return let(app(other), bind("f", x, name))
	}},
	{"what is asked", false, true, func(x api.Exp, name, other string) api.Exp {
		return choice(x, onAll(name, app(name, named(other))))
	}},
	{"a con's body", true, false, func(x api.Exp, name, other string) api.Exp {
		return choice(app(other), onCon(name, x, "v", name))
	}},
	{"an int's body", false, false, func(x api.Exp, name, other string) api.Exp {
		return choice(app(other), onInt(5, x))
	}},
	{"all the others", true, false, func(x api.Exp, name, other string) api.Exp {
		return choice(app(other), onAll(name, x))
	}},
}

func TestDeepForms(t *testing.T) {
	const deep = 1 << 16
	for _, w := range waysDown {
		for _, own := range []bool{false, true} { // each scope with names of its own, or all with the same
			x := app("x0", named("z"))
			var others []string
			for i := range deep {
				name, other := "x0", "y0"
				if own {
					name, other = fmt.Sprint("x", i), fmt.Sprint("y", i)
				}
				x = w.down(x, name, other)
				others = append(others, other)
			}
			others = slices.Compact(others)
			if !w.behind {
				slices.Reverse(others)
			}
			inmost := []string{"z"}
			if !w.binds {
				inmost = []string{"x0", "z"}
			}
			want := slices.Concat(others, inmost)
			if w.behind {
				want = slices.Concat(inmost, others)
			}
			wantGreat(t, w.what, vars.Within(x), want)
			all := vars.Free(fun(x, slices.Concat(others, []string{"z", "x0"})...))
			wantGreat(t, w.what+", and all are arguments", all, nil)
			// Behind the outmost one nothing of it is bound any more.
			behind := choice(x, onAll("v", app("x0", named("v"), named("last"))))
			wantGreat(t, w.what+", and behind it", vars.Within(behind), slices.Concat(want, missing(want, "x0"), []string{"last"}))
			if c := vars.Class(fun(x)); c != api.KThunk {
				t.Errorf("%s: the class %d", w.what, c)
			}
		}
	}
}

// missing tells the name, if a list has it not.
func missing(l []string, name string) []string {
	if slices.Contains(l, name) {
		return nil
	}
	return []string{name}
}

func TestLongForms(t *testing.T) {
	const n = 1 << 17
	var names []string
	var atoms []api.Atom
	group, arms := let(app("f", named("g"))), choice(app("f"))
	for i := range n {
		name := fmt.Sprint("x", i)
		names = append(names, name)
		atoms = append(atoms, named(name), atom(int64(i)), named(name))
		group.Binds = append(group.Binds, bind(name, app(fmt.Sprint("x", n-i-1), named(fmt.Sprint("y", i))), "a", "b"))
		arms.Alts = append(arms.Alts, onCon("C", app(fmt.Sprint("z", i), named(name)), name, "b"), onAll(name, app(name, named("g"))))
	}
	some := func(letter string) []string {
		l := slices.Clone(names)
		for i := range l {
			l[i] = letter + l[i][1:]
		}
		return l
	}
	wantGreat(t, "atoms of app", vars.Within(app("f", atoms...)), slices.Concat([]string{"f"}, names))
	wantGreat(t, "atoms of con", vars.Within(con("f", atoms...)), names)
	wantGreat(t, "atoms of prim", vars.Within(prim("f", atoms...)), names)
	wantGreat(t, "binds", vars.Within(group), append(some("y"), "f", "g"))
	wantGreat(t, "alternatives", vars.Within(arms), slices.Concat([]string{"f", "z0", "g"}, some("z")[1:]))

	// Many arguments, of which all, every other one or none are free.
	wantGreat(t, "arguments", vars.Free(fun(con("C", atoms...), names...)), nil)
	backwards := slices.Clone(names)
	slices.Reverse(backwards)
	wantGreat(t, "arguments backwards", vars.Free(fun(con("C", atoms...), backwards...)), nil)
	wantGreat(t, "other arguments", vars.Free(fun(con("C", atoms...), some("y")...)), names)
	half := backwards[:n/2]
	wantGreat(t, "half of them", vars.Free(fun(con("C", atoms...), half...)), names[:n/2])
	wantGreat(t, "one argument often", vars.Free(fun(con("C", atoms...), slices.Repeat([]string{"x0"}, n)...)), names[1:])
	wantGreat(t, "a group's arguments", vars.Within(let(app("x0"), bind("f", con("C", atoms...), half...))), names[:n/2])
	wantGreat(t, "variables", vars.Within(choice(app("x1"), onCon("C", con("C", atoms...), half...))), slices.Concat([]string{"x1", "x0"}, names[2:n/2]))

	for _, last := range []string{"x0", names[n-1], "none"} {
		want := pick{"C", n + slices.Index(names, last), "p", true}
		if last == "none" {
			want = pick{}
		}
		if got := fieldOf(fun(choice(app("p"), onCon("C", app(last), slices.Concat(names, names)...)))); got != want {
			t.Errorf("%s: %v; want %v", last, got, want)
		}
	}
	long := strings.Repeat("x", 1<<20)
	wantGreat(t, "a long name", vars.Free(fun(app(long, named(long+"y"), named(long+"z"), named(long)), long+"y")), []string{long, long + "z"})
}

// As deep as a text can be.
func TestDeepTexts(t *testing.T) {
	holdReads(t, []read{
		{strings.Repeat("let{x=y;}in ", 59) + "x y z", "y z"},
		{strings.Repeat(`let{x=\y->`, 59) + "x y z" + strings.Repeat(";}in y", 59), "z y"},
		{strings.Repeat("case y of{y->", 59) + "x" + strings.Repeat(";}", 59), "y x"},
		{strings.Repeat("case ", 59) + "x" + strings.Repeat(" of{x->x y;}", 59), "x y"},
		{strings.Repeat("case y of{C x->", 59) + "x y" + strings.Repeat(";z->x;}", 59), "y x"},
	})
}
