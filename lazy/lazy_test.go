package lazy_test

import (
	"fmt"
	"math"
	"testing"

	"midden/api"
	"midden/lazy"
	"midden/scope"
)

// P11.1.

func TestNewOfWhatIsNotRight(t *testing.T) {
	for s, want := range map[string]struct {
		at int
		e  api.Errno
	}{
		"":                                      {0, api.ErrMain},
		"f = 1;":                                {0, api.ErrMain},
		"main = g;":                             {7, api.ErrName},
		"main = f 1;":                           {7, api.ErrName},
		"data C 1; main = C;":                   {17, api.ErrArity},
		"data C 9; main = 1;":                   {5, api.ErrArity},
		"data C 1; data C 1; f=1;":              {15, api.ErrTwice},
		"main = #nope 1;":                       {7, api.ErrPrim},
		"main = #add 1;":                        {7, api.ErrArity},
		"main = C;":                             {7, api.ErrCon},
		"main = 1; main = 2;":                   {10, api.ErrTwice},
		`main = \ a a -> 1;`:                    {0, api.ErrTwice},
		"main = let{x=1;x=2;}in x;":             {15, api.ErrTwice},
		"main = case 1 of { x -> 1; 2 -> 1; };": {27, api.ErrLast},
		`x = 1; f = \ a -> b; main = f x;`:      {18, api.ErrName},
	} {
		m, at, e := lazy.New(program(t, s))
		if m != nil || at != want.at || e != want.e {
			t.Errorf("%s: %v, %d at %d; want %d at %d", s, m != nil, int(e), at, int(want.e), want.at)
		}
	}
}

func TestNewOfTreesWithoutTexts(t *testing.T) {
	main := func(x api.Exp) api.Program {
		return api.Program{Binds: []api.Bind{{Name: "main", Form: api.Form{Body: x}}}}
	}
	wrongs := []api.Program{
		{}, main(api.Exp{}), main(api.Exp{Kind: 7, At: -3}), main(api.Exp{Kind: math.MinInt, At: math.MaxInt}),
		main(api.Exp{Kind: api.XLet, At: 4}), main(api.Exp{Kind: api.XCase, At: 5}),
		main(api.Exp{Kind: api.XLet, Kids: []api.Exp{{Kind: api.XInt}}}),
		main(api.Exp{Kind: api.XCase, Kids: []api.Exp{{Kind: api.XInt}}}),
		main(api.Exp{Kind: api.XCase, Kids: []api.Exp{{Kind: api.XInt}}, Alts: []api.Alt{{At: 9}}}),
		main(api.Exp{Kind: api.XApp, At: math.MinInt}),
		{Datas: []api.Data{{Name: "C", Arity: -1, At: 8}}}, {Datas: []api.Data{{Name: "C", Arity: math.MaxInt}}},
		{Binds: []api.Bind{{At: 6}}},
		{Binds: []api.Bind{{Name: "main", At: 2, Form: api.Form{Args: make([]string, 9), Body: api.Exp{Kind: api.XInt}}}}},
	}
	for _, p := range wrongs {
		at, e := scope.Check(p)
		if m, gotAt, got := lazy.New(p); m != nil || gotAt != at || got != e || e == api.OK {
			t.Errorf("%v, %d at %d; want %d at %d: %s", m != nil, int(got), gotAt, int(e), at, short(p))
		}
	}
}

// What a kind does not name plays no part, nor do names that are no words.
func TestRightTreesWithoutTexts(t *testing.T) {
	junk := api.Exp{Kind: 77, Name: "nobody", Atoms: []api.Atom{{Name: "nobody"}}}
	full := func(x api.Exp) api.Exp {
		if x.Kind != api.XApp && x.Kind != api.XCon && x.Kind != api.XPrim {
			x.Name, x.Atoms = "nobody", junk.Atoms
		}
		if x.Kind != api.XLet {
			x.Binds = []api.Bind{{Name: "main", Form: api.Form{Body: junk}}}
		}
		if x.Kind != api.XCase {
			x.Alts = []api.Alt{{Kind: 9, Name: "main", Body: junk}}
		}
		if x.Kind != api.XInt {
			x.N = 99
		}
		x.Kids, x.At = append(x.Kids, junk, junk), math.MinInt
		return x
	}
	number := func(n int64) api.Exp { return full(api.Exp{Kind: api.XInt, N: n}) }
	name := func(s string) api.Exp { return full(api.Exp{Kind: api.XApp, Name: s}) }
	pair := full(api.Exp{Kind: api.XCon, Name: "", Atoms: []api.Atom{{Name: "\xff", N: 5}, {N: math.MinInt64}}})
	ask := full(api.Exp{Kind: api.XCase, Kids: []api.Exp{name(" ")}, Alts: []api.Alt{
		{Kind: api.AInt, Name: "x", N: 3, Vars: []string{"y"}, Body: number(30)},
		{Kind: api.ACon, Name: "", N: 3, Vars: []string{"#add", "let"}, Body: full(api.Exp{Kind: api.XPrim, Name: "#add", Atoms: []api.Atom{{Name: "#add"}, {Name: "let", N: 8}}})},
	}})
	body := full(api.Exp{Kind: api.XLet, Kids: []api.Exp{ask}, Binds: []api.Bind{
		{Name: "\xff", Form: api.Form{Args: []string{}, Body: number(7)}},
		{Name: " ", Form: api.Form{Body: pair}},
	}})
	p := api.Program{Datas: []api.Data{{Name: "", Arity: 2, At: 7}}, Binds: []api.Bind{{Name: "main", At: -1, Form: api.Form{Body: body}}}}
	if got := resultOf(started(t, p), 1, 1, 100); got.told != "error 60" {
		t.Errorf("%+v", got)
	}
	m := started(t, p)
	if got, want := resultOf(m, made(t, m, "main"), 1, 100), (result{"-9223372036854775801", "", 4}); got != want {
		t.Errorf("%+v, not %+v", got, want)
	}
	p.Binds[0].Form.Body = pair
	p.Binds[0].Form.Body.Atoms = []api.Atom{{Name: "main"}, {}}
	if got := held(t, asked{p, "main", nil, 3}); got.told != "( ( ( _ _) 0) 0)" {
		t.Errorf("%+v", got)
	}
}

// P11.2.

func TestHandles(t *testing.T) {
	m := started(t, program(t, `f = \ a -> #add a 1; main = #emit 5; k = 3;`))
	for i, name := range []string{"main", "f", "main", "k", "k"} {
		if h, e := m.Make(name, nil); h != i+1 || e != api.OK {
			t.Fatalf("%s: %d, %d", name, h, int(e))
		}
	}
	if h, e := m.Make("f", []int64{41}); h != 6 || e != api.OK {
		t.Fatal(h, int(e))
	}
	if m.Steps() != 0 || len(m.Out()) != 0 {
		t.Error("Make counts, or puts out")
	}
	show := func(h int, want string) {
		t.Helper()
		if got := shown(m.Show(h, 8, 100)); got != want {
			t.Errorf("%d: %s, not %s", h, got, want)
		}
	}
	for _, h := range []int{0, -1, 7, 8, math.MaxInt, math.MinInt, 1 << 32, 1<<32 + 1} {
		show(h, "error 60")
		if e := m.Drop(h); e != api.ErrStale {
			t.Errorf("Drop(%d): %d", h, int(e))
		}
	}
	show(1, "5")
	show(3, "5") // the same thing by another handle: it was put out once
	if e := m.Drop(1); e != api.OK {
		t.Error(int(e))
	}
	if e := m.Drop(1); e != api.ErrStale {
		t.Error(int(e))
	}
	show(1, "error 60")
	show(3, "5")
	show(6, "42")
	for _, h := range []int{6, 2, 3, 4, 5} {
		if e := m.Drop(h); e != api.OK {
			t.Errorf("Drop(%d): %d", h, int(e))
		}
	}
	for h := range 8 {
		show(h, "error 60")
	}
	// No number is made twice, not that of one that was dropped.
	if h, e := m.Make("main", nil); h != 7 || e != api.OK {
		t.Error(h, int(e))
	}
	show(7, "5")
	if got := outText(m.Out()); got != "5;" {
		t.Error(got)
	}
}

func TestMakeOfWhatIsWrong(t *testing.T) {
	m := started(t, program(t, `data C 1; f = \ a -> let { x = a; } in C x; main = 1;`))
	nine := make([]int64, 9)
	for _, name := range []string{"", "a", "x", "C", "#add", "Main", "main ", " main", "mai", "mainn", "main\x00", "\xff", "let"} {
		for _, with := range [][]int64{nil, {}, {1}, nine} { // that there is no such name comes first
			if h, e := m.Make(name, with); h != 0 || e != api.ErrName {
				t.Errorf("%q %d: %d, %d", name, with, h, int(e))
			}
		}
	}
	for _, with := range [][]int64{nine, make([]int64, 10), make([]int64, 1<<17)} {
		if h, e := m.Make("main", with); h != 0 || e != api.ErrArity {
			t.Errorf("%d numbers: %d, %d", len(with), h, int(e))
		}
	}
	// What was refused has taken no number.
	if h, e := m.Make("main", make([]int64, 8)); h != 1 || e != api.OK {
		t.Error(h, int(e))
	}
	if h, e := m.Make("f", []int64{}); h != 2 || e != api.OK {
		t.Error(h, int(e))
	}
	if got := shown(m.Show(2, 1, 0)); got != "<fun>" {
		t.Error(got)
	}
	// An empty list is none: a bind that is no function is not called.
	if got := shown(m.Show(made(t, m, "main", []int64{}...), 1, 1)); got != "1" {
		t.Error(got)
	}
	if got := shown(m.Show(1, 1, 1)); got != "fail 43" {
		t.Error(got)
	}
}

func TestMakeWithNumbers(t *testing.T) {
	const text = `data T 8; f = \ a b c d e f g h -> T a b c d e f g h; g = \ a b -> #sub a b; main = f;`
	all := []int64{1, -1, 0, math.MaxInt64, math.MinInt64, 1 << 32, 7, 8}
	for n := range 9 {
		want := "<fun>"
		if n == 8 {
			want = "(T 1 -1 0 9223372036854775807 -9223372036854775808 4294967296 7 8)"
		}
		for _, name := range []string{"f", "main"} {
			if got := held(t, asked{program(t, text), name, all[:n], 2}); got.told != want {
				t.Errorf("%s with %d numbers: %+v", name, n, got)
			}
		}
	}
	for n, want := range []string{"<fun>", "<fun>", "2", "fail 43", "fail 43", "fail 43", "fail 43", "fail 43", "fail 43"} {
		if got := held(t, asked{program(t, text), "g", all[:n], 2}); got.told != want {
			t.Errorf("g with %d numbers: %+v", n, got)
		}
	}
}

// P11.3.

func TestShowOfWhatIsWrong(t *testing.T) {
	m := started(t, program(t, "main = #emit 1;"))
	h := made(t, m, "main")
	wrong := []int{-1, -2, math.MinInt, math.MinInt + 1, -1 << 32, math.MaxInt, math.MaxInt - 1, 1 << 32, 1<<32 + 1, 1<<20 + 1}
	for _, n := range append(wrong, 9, 10, 16, 256+1) {
		if got := shown(m.Show(h, n, 100)); got != "error 2" {
			t.Errorf("depth %d: %s", n, got)
		}
		if got := shown(m.Show(h+1, n, 100)); got != "error 60" {
			t.Errorf("depth %d of nobody's handle: %s", n, got)
		}
	}
	for _, n := range wrong {
		if got := shown(m.Show(h, 1, n)); got != "error 2" {
			t.Errorf("fuel %d: %s", n, got)
		}
		if got := shown(m.Show(0, 1, n)); got != "error 60" {
			t.Errorf("fuel %d of nobody's handle: %s", n, got)
		}
	}
	if m.Steps() != 0 || len(m.Out()) != 0 {
		t.Error("something was done")
	}
	for depth, want := range []string{"_", "1", "1", "1", "1", "1", "1", "1", "1"} {
		if got := shown(m.Show(h, depth, api.MaxFuel)); got != want {
			t.Errorf("depth %d: %s", depth, got)
		}
	}
}

func TestNilMachine(t *testing.T) {
	var m *lazy.Machine
	for _, n := range []int{math.MinInt, -1, 0, 1, 2, math.MaxInt} {
		if got := shown(m.Show(n, n, n)); got != "error 1" {
			t.Error(n, got)
		}
		if e := m.Drop(n); e != api.ErrNil {
			t.Error(n, int(e))
		}
	}
	for _, with := range [][]int64{nil, {1}, make([]int64, 9)} {
		for _, name := range []string{"", "main"} {
			if h, e := m.Make(name, with); h != 0 || e != api.ErrNil {
				t.Error(h, int(e))
			}
		}
	}
	if len(m.Out()) != 0 || m.Steps() != 0 {
		t.Error("nothing has put out something, or counted")
	}
}

func TestDeadMachine(t *testing.T) {
	m := started(t, program(t, `spin = \ n -> case #emit n of { m -> let { k = #add m 1; } in spin k; }; main = spin 1; k = 5;`))
	h, other := made(t, m, "main"), made(t, m, "k")
	if got, want := resultOf(m, other, 1, 1), (result{"5", "", 1}); got != want {
		t.Fatal(got)
	}
	// main, spin's case, #emit, let, spin; k's #add is one more from the second time on.
	if got, want := resultOf(m, h, 1, 9), (result{"fuel", "1;2;", 10}); got != want {
		t.Fatal(got)
	}
	for _, n := range []int{h, other, 0, -1, 3, math.MaxInt, math.MinInt} {
		for _, depth := range []int{0, 1, 9, -1} {
			if got := shown(m.Show(n, depth, depth)); got != "error 9" {
				t.Errorf("Show(%d, %d, %d): %s", n, depth, depth, got)
			}
		}
		if e := m.Drop(n); e != api.ErrDead {
			t.Errorf("Drop(%d): %d", n, int(e))
		}
	}
	for _, name := range []string{"main", "k", "nobody", ""} {
		for _, with := range [][]int64{nil, {1}, make([]int64, 9)} {
			if n, e := m.Make(name, with); n != 0 || e != api.ErrDead {
				t.Errorf("Make(%q): %d, %d", name, n, int(e))
			}
		}
	}
	if got := outText(m.Out()); got != "1;2;" || m.Steps() != 10 {
		t.Errorf("%s, %d", got, m.Steps())
	}
}

// What is answered is new memory, and what is handed in is neither changed nor kept.
func TestMemory(t *testing.T) {
	p := program(t, `data C 2; f = \ a b -> case a of { 1 -> C a b; C x y -> x; z -> C b z; }; main = let { x = #emit 7; r = #ref x; } in C x r;`)
	was := fmt.Sprintf("%#v", p)
	m := started(t, p)
	if fmt.Sprintf("%#v", p) != was {
		t.Error("New changed it")
	}
	spoil(p)
	with := []int64{1, 2, 3}
	h := made(t, m, "f", with[:2]...)
	g, e := m.Make("f", with[:2])
	if g != 2 || e != api.OK || with[2] != 3 {
		t.Fatal(g, int(e), with)
	}
	with[0], with[1] = 9, 9
	k := made(t, m, "main")
	for range 2 {
		for n, want := range map[int]string{h: "(C 1 2)", g: "(C 1 2)", k: "(C 7 <ref 7>)"} {
			o, e := m.Show(n, 8, 100)
			if got := shown(o, e); got != want {
				t.Errorf("%s, not %s", got, want)
			}
			for i := range o.Tree.Kids {
				o.Tree.Kids[i] = api.Tree{Kind: 77, Kids: o.Tree.Kids[:0]}
			}
		}
		l := m.Out()
		if outText(l) != "7;" {
			t.Error(l)
		}
		for i := range l[:cap(l)] {
			l[:cap(l)][i] = 99
		}
	}
}

// spoil makes something else of all that a program has.
func spoil(p api.Program) {
	var exp func(x api.Exp)
	binds := func(l []api.Bind) {
		for i := range l {
			exp(l[i].Form.Body)
			for j := range l[i].Form.Args {
				l[i].Form.Args[j] = "spoiled"
			}
			l[i] = api.Bind{}
		}
	}
	exp = func(x api.Exp) {
		for i := range x.Atoms {
			x.Atoms[i] = api.Atom{N: 99}
		}
		binds(x.Binds)
		for i := range x.Kids {
			exp(x.Kids[i])
			x.Kids[i] = api.Exp{}
		}
		for i := range x.Alts {
			exp(x.Alts[i].Body)
			for j := range x.Alts[i].Vars {
				x.Alts[i].Vars[j] = "spoiled"
			}
			x.Alts[i] = api.Alt{}
		}
	}
	binds(p.Binds)
	for i := range p.Datas {
		p.Datas[i] = api.Data{}
	}
}
