package gen_test

import (
	"fmt"
	"slices"
	"strings"
	"testing"

	"midden/api"
	"midden/code"
	"midden/scope"
)

// namesFrom tells so many names that begin with a letter.
func namesFrom(letter string, many int) []string {
	var l []string
	for i := range many {
		l = append(l, fmt.Sprint(letter, i))
	}
	return l
}

// one is a program of main alone, with a constructor for each number of fields.
func one(body api.Exp, args ...string) api.Program {
	p := api.Program{Binds: []api.Bind{bind("main", body, args...)}}
	for i := range 9 {
		p.Datas = append(p.Datas, api.Data{Name: fmt.Sprint("C", i), Arity: i})
	}
	return p
}

// filled is an expression within so many locals: x0, x1 ..
func filled(many int, body api.Exp) api.Exp {
	x := let(body)
	for i, name := range namesFrom("x", many) {
		x.Binds = append(x.Binds, bind(name, num(int64(i))))
	}
	return x
}

// calling is alternatives that name all of the names, eight in each.
func calling(names []string) []api.Alt {
	var l []api.Alt
	for eight := range slices.Chunk(names, 8) {
		x := app("main")
		for _, name := range eight {
			x.Atoms = append(x.Atoms, named(name))
		}
		l = append(l, onInt(int64(len(l)), x))
	}
	return l
}

// needing is an expression that needs so many: x0, x1 ..
func needing(many int) api.Exp { return choice(num(1), calling(namesFrom("x", many))...) }

// wide is a program with a form that needs so many.
func wide(many int, args ...string) api.Program {
	return one(filled(many, let(num(1), bind("f", needing(many), args...))))
}

// limit is a kind of programs, of each size one: up to a size they are right, beyond that too big.
type limit struct {
	what string
	most int
	made func(n int) api.Program
}

func holdLimits(t *testing.T, l []limit, most func(c api.Code) int, want int) {
	t.Helper()
	for _, k := range l {
		for n := k.most - 1; n <= k.most; n++ {
			got := byModel(t, k.made(n))
			if got.e != api.OK || most(got.c) != want-k.most+n {
				t.Errorf("%s, %d: %d, %d", k.what, n, int(got.e), most(got.c))
			}
		}
		for _, more := range []int{1, 2, 500} {
			p := k.made(k.most + more)
			if at, e := scope.Check(p); e != api.OK {
				t.Fatalf("%s: %d at %d", k.what, int(e), at)
			}
			byModel(t, p)
			holds(t, p, answer{e: api.ErrBig})
		}
	}
}

func mostNeeded(c api.Code) int {
	most := 0
	for _, f := range c.Infos {
		most = max(most, f.Free)
	}
	return most
}

func mostLocals(c api.Code) int {
	most := 0
	for _, x := range c.Insns {
		most = max(most, x.B)
	}
	return most
}

// P13.1: what a form needs.
func TestMostNeeded(t *testing.T) {
	eight := namesFrom("a", 8)
	holdLimits(t, []limit{
		{"a thunk", 255, func(n int) api.Program { return wide(n) }},
		{"a function", 255, func(n int) api.Program { return wide(n, "a") }},
		{"a function of many arguments", 255, func(n int) api.Program { return wide(n, eight...) }},
		{"arguments that hide some", 263, func(n int) api.Program { return wide(n, namesFrom("x", 8)...) }},
		{"a form within a form", 254, func(n int) api.Program {
			inner := let(num(1), bind("g", choice(app("y"), calling(namesFrom("x", n))...)))
			return one(filled(n, let(num(1), bind("f", inner, "y"))))
		}},
		{"a form and itself", 254, func(n int) api.Program {
			return one(filled(n, let(num(1), bind("f", choice(app("f"), calling(namesFrom("x", n))...)))))
		}},
		{"a form in an alternative", 254, func(n int) api.Program {
			form := bind("f", choice(app("v"), calling(namesFrom("x", n))...))
			return one(filled(n, choice(num(1), onInt(2, num(3)), onAll("v", let(num(1), form)))))
		}},
		{"a form in what is asked", 255, func(n int) api.Program {
			return one(filled(n, choice(let(num(1), bind("f", needing(n))), onAll("v", num(1)))))
		}},
		{"the last one of the last bind", 255, func(n int) api.Program {
			p := wide(n)
			p.Binds[0].Name = "g"
			p.Binds = slices.Concat(wide(3).Binds, p.Binds)
			return p
		}},
		{"names of locals and globals", 255, func(n int) api.Program {
			p := one(filled(n, let(num(1), bind("f", choice(needing(n), calling(namesFrom("g", 300))...)))))
			for _, name := range namesFrom("g", 300) {
				p.Binds = append(p.Binds, bind(name, num(1)))
			}
			return p
		}},
	}, mostNeeded, 255)
	// What a case takes along or keeps is no form's.
	for n := 250; n < 1000; n += 150 {
		x := choice(needing(n), calling(namesFrom("x", n))...)
		if got := byModel(t, one(filled(n, x))); got.e != api.OK {
			t.Errorf("%d: %d", n, int(got.e))
		}
	}
}

// atomsOf is so many numbers.
func atomsOf(many int) []api.Atom {
	var l []api.Atom
	for i := range many {
		l = append(l, number(int64(i)))
	}
	return l
}

// P13.1: how many locals there are at an instruction.
func TestMostLocals(t *testing.T) {
	eight := namesFrom("a", 8)
	of := func(body api.Exp) func(n int) api.Program {
		return func(n int) api.Program { return one(filled(n, body)) }
	}
	holdLimits(t, []limit{
		{"a let", 1000, of(app("x0"))},
		{"a let in a let", 998, of(let(app("x0"), bind("y", num(1)), bind("z", app("y"))))},
		{"a let in a function", 992, func(n int) api.Program { return one(filled(n, app("x0")), eight...) }},
		{"a let in an alternative", 999, func(n int) api.Program { return one(choice(num(1), onAll("v", filled(n, app("v"))))) }},
		{"a let in what is asked", 1000, func(n int) api.Program { return one(choice(filled(n, app("x1")), onAll("v", app("v")))) }},
		{"lets far within one another", 1000, func(n int) api.Program {
			x := app("x")
			for range n {
				x = let(x, bind("x", num(1)))
			}
			return one(x)
		}},
		{"a let's numbers", 993, func(n int) api.Program {
			x := filled(n, app("x0"))
			x.Binds = append(x.Binds, bind("p", con("C8", append(atomsOf(6), named("p"), named("x1"))...)))
			return one(x)
		}},
		{"a form", 737, func(n int) api.Program {
			x := let(needing(255))
			for _, name := range namesFrom("y", n) {
				x.Binds = append(x.Binds, bind(name, num(1)))
			}
			return one(filled(255, let(num(1), bind("f", x, eight...))))
		}},
		{"the last bind", 1000, func(n int) api.Program {
			p := one(num(1))
			p.Binds = append(p.Binds, bind("g", filled(n, app("x0"))))
			return p
		}},
		{"a number", 999, of(num(1))},
		{"a constructor", 999, of(con("C2", named("x1"), named("main")))},
		{"a constructor with numbers", 996, of(con("C4", append(atomsOf(3), named("x1"))...))},
		{"a call with numbers", 992, of(app("main", atomsOf(8)...))},
		{"a primitive with numbers", 998, of(prim("#add", atomsOf(2)...))},
		{"a value", 999, func(n int) api.Program { return one(filled(n, needing(n))) }},
		{"a value that has a name", 998, func(n int) api.Program {
			x := needing(n)
			x.Alts = append(x.Alts, onAll("v", app("v", number(1))))
			return one(filled(n, x))
		}},
		{"an arm's fields", 991, func(n int) api.Program {
			x := needing(n)
			x.Alts = append(x.Alts, onCon("C8", app("a7"), eight...), onCon("C0", app("x0")))
			return one(filled(n, x))
		}},
		{"an arm's fields and numbers", 990, func(n int) api.Program {
			x := needing(n)
			x.Alts = append(x.Alts, onCon("C7", con("C2", named("a6"), number(7)), eight[:7]...))
			return one(filled(n, x))
		}},
		{"all that is taken along", 1000, func(n int) api.Program {
			all := namesFrom("x", n)
			return one(filled(n, choice(choice(app("x0", named("x1")), calling(all[2:])...), onAll("v", app("v")))))
		}},
		{"what is taken along, and a let", 999, func(n int) api.Program {
			return one(filled(n, choice(let(needing(n), bind("y", num(1))), onAll("v", app("v")))))
		}},
	}, mostLocals, 1000)
}

// Locals of one alternative are not there in another one, nor those of what is asked.
func TestLocalsApart(t *testing.T) {
	x := choice(filled(999, num(1)))
	for i := range 5 {
		x.Alts = append(x.Alts, onInt(int64(i), filled(998, num(1))))
	}
	x = choice(x, onAll("v", filled(998, num(1))))
	if got := byModel(t, one(x)); got.e != api.OK || mostLocals(got.c) != 1000 {
		t.Error(int(got.e), mostLocals(got.c))
	}
}

// way puts an expression within another. In it stand x, and g, which is a global.
type way struct {
	what  string
	right bool // as deep as may be?
	down  func(x api.Exp) api.Exp
}

var waysDown = []way{
	{"what is asked", true, func(x api.Exp) api.Exp { return choice(x, onAll("y", app("y", named("x")))) }},
	{"a con's body", true, func(x api.Exp) api.Exp { return choice(app("x"), onCon("C2", x, "y", "x")) }},
	{"a con's body that needs more", true, func(x api.Exp) api.Exp { return choice(app("g"), onCon("C1", x, "y"), onInt(5, app("x"))) }},
	{"an int's body", true, func(x api.Exp) api.Exp { return choice(app("g", named("x")), onInt(5, x), onAll("y", app("y"))) }},
	{"all the others", true, func(x api.Exp) api.Exp { return choice(app("x"), onAll("x", x)) }},
	{"a thunk", true, func(x api.Exp) api.Exp { return let(app("y"), bind("y", x)) }},
	{"a thunk of the same name", true, func(x api.Exp) api.Exp { return let(app("x"), bind("x", x)) }},
	{"a function", true, func(x api.Exp) api.Exp { return let(app("y", named("x")), bind("y", x, "x", "z")) }},
	{"a function that needs", true, func(x api.Exp) api.Exp { return let(app("y"), bind("z", num(1)), bind("y", x, "a", "b")) }},
	{"a let's body in an alternative", true, func(x api.Exp) api.Exp {
		return choice(num(1), onAll("y", let(x, bind("z", con("C2", named("x"), number(3))))))
	}},
	{"a let's body in what is asked", true, func(x api.Exp) api.Exp {
		return choice(let(x, bind("z", app("x", named("z")))), onAll("y", app("x")))
	}},
	{"a let's body", false, func(x api.Exp) api.Exp { return let(x, bind("y", app("x"))) }},
}

// deepOne is a program with so many expressions within one another.
func deepOne(w way, deep int) api.Program {
	x := app("x", named("g"), number(1))
	for range deep {
		x = w.down(x)
	}
	p := one(x, "x")
	p.Binds = append(p.Binds, bind("g", num(1)))
	return p
}

// As deep as the document allows: each way down is laid as it is laid a few expressions deep.
func TestDeepPrograms(t *testing.T) {
	const deep = 1 << 16
	for _, w := range waysDown {
		few, more := byModel(t, deepOne(w, 100)).c, byModel(t, deepOne(w, 101)).c
		got := compile(deepOne(w, deep))
		if !w.right {
			if got.e != api.ErrBig || got.at != 0 || len(got.c.Insns)+len(got.c.Infos)+len(got.c.Cons)+len(got.c.Globals) > 0 {
				t.Errorf("%s: %d at %d", w.what, int(got.e), got.at)
			}
			continue
		}
		if at, e := code.Check(got.c); got.e != api.OK || e != api.OK {
			t.Errorf("%s: %d; not right: %d at %d", w.what, int(got.e), int(e), at)
			continue
		}
		insns := len(few.Insns) + (deep-100)*(len(more.Insns)-len(few.Insns))
		infos := len(few.Infos) + (deep-100)*(len(more.Infos)-len(few.Infos))
		if len(got.c.Insns) != insns || len(got.c.Infos) != infos || mostLocals(got.c) != mostLocals(few) || mostNeeded(got.c) != mostNeeded(few) {
			t.Errorf("%s: %d instructions, %d infos; want %d, %d", w.what, len(got.c.Insns), len(got.c.Infos), insns, infos)
		}
	}
}

// Many names that are needed all the way down.
func TestDeepAndWide(t *testing.T) {
	for _, w := range waysDown[:9] {
		for _, deep := range []int{20, 1 << 12} {
			x := choice(app("x"), calling(namesFrom("x", 200))...)
			for range deep {
				x = w.down(x)
			}
			p := one(filled(200, x), "x")
			p.Binds = append(p.Binds, bind("g", num(1)))
			if deep == 20 {
				byModel(t, p)
			}
			got := compile(p)
			if at, e := code.Check(got.c); got.e != api.OK || e != api.OK {
				t.Errorf("%s: %d; not right: %d at %d", w.what, int(got.e), int(e), at)
			}
		}
	}
}

// Long lists of everything.
func TestLongPrograms(t *testing.T) {
	const n = 1 << 17
	globals, consts := namesFrom("g", n), namesFrom("K", n)
	p := api.Program{Binds: []api.Bind{bind("main", app(globals[n-1], named(globals[0]), named("main")))}}
	arms := choice(app("x"))
	for i := range n {
		p.Datas = append(p.Datas, api.Data{Name: consts[i], Arity: i % 9})
		p.Binds = append(p.Binds, bind(globals[i], con(consts[n-1-i], slices.Repeat([]api.Atom{named(globals[n-1-i])}, (n-1-i)%9)...)))
		arms.Alts = append(arms.Alts, onCon(consts[i], app(globals[i], named("y")), namesFrom("v", i%9)...), onInt(int64(i), app("x")))
	}
	arms.Alts = append(arms.Alts, onAll("z", app("z", named("y"))))
	p.Binds = append(p.Binds, bind("all", arms, "x", "y"))
	got := compile(p)
	if at, e := code.Check(got.c); got.e != api.OK || e != api.OK {
		t.Fatalf("%d; not right: %d at %d", int(got.e), int(e), at)
	}
	c := got.c
	if len(c.Cons) != n || len(c.Globals) != n+2 || len(c.Infos) != n+2 || len(c.Insns) != 1+2*n+3+2*n+1 {
		t.Errorf("%d, %d, %d, %d", len(c.Cons), len(c.Globals), len(c.Infos), len(c.Insns))
	}
	if c.Insns[0].A != -1-n || !slices.Equal(c.Insns[0].List, []int{-2, -1}) {
		t.Errorf("%v", c.Insns[0])
	}
	for i := range n {
		k := n - 1 - i
		m := c.Insns[1+2*i].Makes[0]
		if c.Infos[i+1].To != 1+2*i || c.Globals[i+1] != (api.Global{Name: globals[i], Info: i + 1}) || m.Info != k || !slices.Equal(m.From, slices.Repeat([]int{-2 - k}, k%9)) {
			t.Fatalf("%d: %v", i, m)
		}
	}
	first := c.Infos[n+1].To
	if x := c.Insns[first]; x.A != first+2 || !slices.Equal(x.Keep, []int{1, 0}) || !slices.Equal(x.List, []int{0}) {
		t.Errorf("%v", x)
	}
	for i, a := range c.Insns[first+2].Arms {
		x := c.Insns[first+3+i]
		want, many, whom, with := api.Arm{Kind: api.ACon, Con: i / 2, To: first + 3 + i}, 3+i/2%9, -2-i/2, []int{0}
		if i%2 == 1 {
			want, many, whom, with = api.Arm{Kind: api.AInt, N: int64(i / 2), To: first + 3 + i}, 3, 1, nil
		}
		if i == 2*n {
			want, many, whom, with = api.Arm{Kind: api.AAll, To: first + 3 + i}, 3, 2, []int{0}
		}
		if a != want || x.B != many || x.A != whom || !slices.Equal(x.List, with) {
			t.Fatalf("%d: %v, %v", i, a, x)
		}
	}
}

// Lists that are far too long: a let's binds, and names in what is asked and in alternatives.
func TestTooLong(t *testing.T) {
	const n = 1 << 17
	for what, x := range map[string]api.Exp{
		"a let":                     app("x5"),
		"alternatives":              needing(n),
		"what is asked":             choice(needing(n), onAll("v", num(1))),
		"a thunk":                   let(num(1), bind("f", needing(n))),
		"a function":                let(num(1), bind("f", needing(n), "a")),
		"all of them again, deeper": choice(choice(needing(n), onAll("v", num(1))), onAll("v", needing(n))),
	} {
		if got := compile(one(filled(n, x))); got.e != api.ErrBig || got.at != 0 || len(got.c.Insns)+len(got.c.Infos)+len(got.c.Cons)+len(got.c.Globals) > 0 {
			t.Errorf("%s: %d at %d", what, int(got.e), got.at)
		}
	}
}

// Many forms, one behind the other and within one another.
func TestManyForms(t *testing.T) {
	const n = 1 << 17
	x := choice(num(1))
	for i := range n {
		x.Alts = append(x.Alts, onInt(int64(i), let(app("f"), bind("f", let(app("h"), bind("h", app("f", named("y"))))))))
	}
	got := compile(one(x, "y"))
	if at, e := code.Check(got.c); got.e != api.OK || e != api.OK {
		t.Fatalf("%d; not right: %d at %d", int(got.e), int(e), at)
	}
	for i := range n {
		f, h := got.c.Infos[1+i], got.c.Infos[1+n+i]
		if f.To != 4+2*n+2*i || f.Free != 2 || h.To != 4+4*n+i || h.Free != 2 {
			t.Fatalf("%d: %v, %v", i, f, h)
		}
		if m := got.c.Insns[f.To].Makes[0]; m.Info != 1+n+i || !slices.Equal(m.From, []int{0, 1}) {
			t.Fatalf("%d: %v", i, m)
		}
	}
}

// As long and as deep as a text can be, and names of whatever length.
func TestGreatTexts(t *testing.T) {
	for _, s := range []string{
		strings.Repeat("let{x=1;}in ", 59) + "x",
		strings.Repeat(`let{x=\y->`, 59) + "x y" + strings.Repeat(";}in x", 59),
		strings.Repeat("case main of{x->", 59) + "x" + strings.Repeat(";}", 59),
		strings.Repeat("case ", 59) + "main" + strings.Repeat(" of{x->x;}", 59),
	} {
		if got := byModel(t, program(t, "main = "+s+";")); got.e != api.OK {
			t.Errorf("%d: %s", int(got.e), s)
		}
	}
	var s strings.Builder
	for i := 0; s.Len() < api.MaxBytes-100; i++ {
		fmt.Fprintf(&s, "f%d=let{a=f%d b;b=a;}in a;", i, i/2)
	}
	if got := byModel(t, program(t, s.String()+"main = f1;")); got.e != api.OK {
		t.Error(int(got.e))
	}
	long := strings.Repeat("x", 1<<20)
	p := api.Program{
		Datas: []api.Data{{Name: long, Arity: 1}},
		Binds: []api.Bind{bind("main", let(app(long+"z", named(long)), bind(long+"z", con(long, named(long+"y")))), long, long+"y")},
	}
	if got := compile(p); told(got.c) != "fun2+0@0 | 2 let con0[1] | 3 call 2 [0]" || got.c.Cons[0].Name != long {
		t.Error(told(got.c))
	}
}
