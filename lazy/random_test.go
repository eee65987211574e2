package lazy_test

import (
	"fmt"
	"math"
	"math/rand"
	"slices"
	"strings"
	"testing"

	"midden/api"
	"midden/lazy"
	"midden/prim"
	"midden/scope"
)

// What a name is meant to stand for, so that random programs do something ahead of their first error.
const (
	aNum  = "num"
	aList = "list" // Nil, or Cons of a number and a list
	aFun  = "fun"  // of a number, telling one
	aFun2 = "fun2" // of two numbers, telling one
	aRef  = "ref"  // that holds a number
	anArr = "arr"  // of numbers
)

var allKinds = []string{aNum, aNum, aNum, aList, aList, aFun, aFun, aFun2, aRef, anArr}

// bound is a name and what it is meant to be.
type bound struct{ name, kind string }

// maker makes random programs that are right.
type maker struct {
	*rand.Rand
	wild int // one of so many names is any one
}

func pick[T any](m maker, l []T) T { return l[m.Intn(len(l))] }

func (m maker) number() int64 {
	if m.Intn(40) == 0 {
		return pick(m, []int64{math.MaxInt64, math.MinInt64, 1024, 1025, -1 << 32})
	}
	return int64(m.Intn(7) - 1)
}

// named is a name in scope of that kind, if there is one.
func (m maker) named(kind string, in []bound) (string, bool) {
	var l []string
	for i, b := range in {
		hidden := slices.ContainsFunc(in[i+1:], func(o bound) bool { return o.name == b.name })
		if !hidden && (b.kind == kind || m.Intn(m.wild) == 0) {
			l = append(l, b.name)
		}
	}
	if len(l) == 0 {
		return "", false
	}
	return pick(m, l), true
}

func (m maker) atom(kind string, in []bound) api.Atom {
	name, ok := m.named(kind, in)
	if !ok || kind == aNum && m.Intn(4) == 0 {
		return api.Atom{N: m.number()}
	}
	return api.Atom{Name: name, N: 5}
}

func (m maker) atoms(in []bound, kinds ...string) []api.Atom {
	var l []api.Atom
	for _, kind := range kinds {
		l = append(l, m.atom(kind, in))
	}
	return l
}

func (m maker) prim(in []bound, name string, kinds ...string) api.Exp {
	return api.Exp{Kind: api.XPrim, Name: name, Atoms: m.atoms(in, kinds...)}
}

// app calls one of a kind, or is what another one of that kind is alone.
func (m maker) app(in []bound, kind string, with ...string) (api.Exp, bool) {
	name, ok := m.named(kind, in)
	return api.Exp{Kind: api.XApp, Name: name, Atoms: m.atoms(in, with...)}, ok
}

// exp is an expression that is meant to tell a thing of a kind.
func (m maker) exp(kind string, room int, in []bound) api.Exp {
	if room > 0 {
		switch m.Intn(5) {
		case 0, 1:
			return m.let(kind, room, in)
		case 2, 3:
			return m.choice(kind, room, in)
		}
	}
	switch m.Intn(8) {
	case 0:
		if x, ok := m.app(in, kind); ok {
			return x
		}
	case 1:
		return m.prim(in, "#seq", pick(m, allKinds), kind)
	}
	switch kind {
	case aNum:
		return m.simple(in)
	case aList:
		if m.Intn(3) == 0 {
			return api.Exp{Kind: api.XCon, Name: "Nil"}
		}
		return api.Exp{Kind: api.XCon, Name: "Cons", Atoms: m.atoms(in, pick(m, allKinds), aList)}
	case aFun:
		if x, ok := m.app(in, aFun2, aNum); ok {
			return x
		}
	case aRef:
		return m.prim(in, "#ref", aNum)
	case anArr:
		return m.prim(in, "#arr", aNum, aNum)
	}
	if x, ok := m.app(in, kind); ok {
		return x
	}
	return api.Exp{Kind: api.XInt, N: m.number()}
}

// simple is an expression without others in it, that is meant to tell a number.
func (m maker) simple(in []bound) api.Exp {
	which := m.Intn(14)
	if want := map[int]string{1: aRef, 2: aRef, 3: anArr, 4: anArr, 5: anArr}[which]; want != "" && m.Intn(10) > 0 {
		if _, ok := m.named(want, in); !ok {
			which = 9
		}
	}
	switch which {
	case 0, 12, 13:
		return m.prim(in, "#emit", aNum)
	case 1:
		return m.prim(in, "#get", aRef)
	case 2:
		return m.prim(in, "#set", aRef, aNum)
	case 3:
		return m.prim(in, "#at", anArr, aNum)
	case 4:
		return m.prim(in, "#put", anArr, aNum, aNum)
	case 5:
		return m.prim(in, "#len", anArr)
	case 6, 7:
		if x, ok := m.app(in, aFun, aNum); ok {
			return x
		}
	case 8:
		if x, ok := m.app(in, aFun2, aNum, aNum); ok {
			return x
		}
	case 9:
		return api.Exp{Kind: api.XInt, N: m.number()}
	}
	return m.prim(in, prim.Name(1+m.Intn(7)), aNum, aNum)
}

var someNames = []string{"a", "b", "c", "d", "e", "f", "g", "h"}

// unlike tells some names, no two the same; in some programs they hide others.
func (m maker) unlike(n int) []string {
	var l []string
	for _, i := range m.Perm(len(someNames))[:n] {
		l = append(l, someNames[i])
	}
	return l
}

func (m maker) form(kind string, room int, in []bound) api.Form {
	args := map[string]int{aFun: 1, aFun2: 2}[kind]
	if args == 0 || m.Intn(6) == 0 {
		return api.Form{Body: m.exp(kind, room, in)}
	}
	names := m.unlike(args)
	for _, name := range names {
		in = append(slices.Clone(in), bound{name, aNum})
	}
	return api.Form{Args: names, Body: m.exp(aNum, room, in)}
}

// ahead is mostly a scope without its last ones, lest too much needs itself. (What these hide is meant, too.)
func (m maker) ahead(in []bound, last int) []bound {
	if m.Intn(4) == 0 {
		return in
	}
	l := slices.Clone(in[:len(in)-last])
	return slices.DeleteFunc(l, func(b bound) bool {
		return slices.ContainsFunc(in[len(in)-last:], func(o bound) bool { return o.name == b.name })
	})
}

func (m maker) let(kind string, room int, in []bound) api.Exp {
	names := m.unlike(1 + m.Intn(3))
	in = slices.Clone(in)
	var kinds []string
	for _, name := range names {
		kinds = append(kinds, pick(m, allKinds))
		in = append(in, bound{name, kinds[len(kinds)-1]})
	}
	x := api.Exp{Kind: api.XLet}
	for i, name := range names {
		x.Binds = append(x.Binds, api.Bind{Name: name, Form: m.form(kinds[i], m.Intn(room), m.ahead(in, len(names)-i))})
	}
	x.Kids = []api.Exp{m.exp(kind, room-1, in)}
	return x
}

func (m maker) choice(kind string, room int, in []bound) api.Exp {
	of := pick(m, allKinds)
	x := api.Exp{Kind: api.XCase, Kids: []api.Exp{m.exp(of, m.Intn(room), in)}}
	body := func(more ...bound) api.Exp { return m.exp(kind, m.Intn(room), slices.Concat(in, more)) }
	if of == aList {
		names := m.unlike(2)
		x.Alts = append(x.Alts, api.Alt{Kind: api.ACon, Name: "Cons", Vars: names, Body: body(bound{names[0], aNum}, bound{names[1], aList})})
		if m.Intn(3) > 0 {
			x.Alts = append(x.Alts, api.Alt{Kind: api.ACon, Name: "Nil", Body: body()})
		}
	}
	if of == aNum {
		for n := range m.Intn(3) {
			x.Alts = append(x.Alts, api.Alt{Kind: api.AInt, N: int64(n), Body: body()})
		}
	}
	if len(x.Alts) == 0 || m.Intn(3) > 0 {
		name := m.unlike(1)[0]
		x.Alts = append(x.Alts, api.Alt{Kind: api.AAll, Name: name, Body: body(bound{name, of})})
	}
	return x
}

func (m maker) program() api.Program {
	p := api.Program{Datas: []api.Data{{Name: "Nil"}, {Name: "Cons", Arity: 2}}}
	var in []bound
	for i := range 3 + m.Intn(4) {
		in = append(in, bound{fmt.Sprint("g", i), pick(m, allKinds)})
	}
	in = append(in, bound{"main", pick(m, []string{aNum, aList, aList, anArr, aRef, aFun})})
	for i, b := range in {
		p.Binds = append(p.Binds, api.Bind{Name: b.name, Form: m.form(b.kind, 1+m.Intn(4), m.ahead(in, len(in)-i))})
	}
	return p
}

// Random programs, each held to the model and to P11.5 to P11.7.
func TestRandomRuns(t *testing.T) {
	m := maker{rand.New(rand.NewSource(1)), 60}
	many := map[string]int{}
	steps := 0
	for range 4000 {
		p := m.program()
		b := pick(m, p.Binds)
		var with []int64
		for range max(0, len(b.Form.Args)+pick(m, []int{-1, 0, 0, 0, 0, 1})) {
			with = append(with, m.number())
		}
		a := asked{p, b.Name, with, m.Intn(9)}
		got := first(t, a, 3000)
		many[strings.Fields(got.told)[0]]++
		steps = max(steps, got.steps)
		if got.told != "fuel" {
			many[fmt.Sprint("to depth ", a.depth)]++
			if held(t, a) != got {
				t.Errorf("%+v: %s", got, short(a))
			}
		}
		many[fmt.Sprint("put out ", got.out != "")]++
	}
	for _, kind := range []string{"loop", "fail", "fuel", "<fun>", "Nil", "(Cons", "_", "0", "1", "-1", "put out true", "to depth 8"} {
		if many[kind] < 15 {
			t.Errorf("%s came %d times: too few", kind, many[kind])
		}
	}
	if steps < 1000 {
		t.Errorf("the longest run had %d steps", steps)
	}
}

// first tells what comes with little fuel, by the machine and its model.
func first(t *testing.T, a asked, fuel int) result {
	t.Helper()
	got, want := a.on(t, started(t, a.p), fuel), a.on(t, modelled(t, a.p), fuel)
	if got != want {
		t.Errorf("%+v; the model says %+v: %s", got, want, short(a))
	}
	return got
}

// Random calls of one machine and its model, right ones and wrong ones.
func TestRandomCalls(t *testing.T) {
	m := maker{rand.New(rand.NewSource(2)), 40}
	errors := map[api.Errno]int{}
	for range 1500 {
		p := m.program()
		one, other := started(t, p), modelled(t, p)
		for range 25 {
			got, e := m.call(one, other, p)
			if got != "" {
				t.Fatalf("%s: %s", got, short(p))
			}
			errors[e]++
		}
	}
	for _, e := range []api.Errno{api.OK, api.ErrStale, api.ErrName, api.ErrArg, api.ErrArity, api.ErrDead} {
		if errors[e] < 100 {
			t.Errorf("the error %d came %d times: too few", int(e), errors[e])
		}
	}
}

// call calls both alike, and tells how their answers differ; and the error.
func (m maker) call(one *lazy.Machine, other *model, p api.Program) (string, api.Errno) {
	h := m.Intn(other.last+2) - m.Intn(20)/19
	var got, want string
	var e api.Errno
	switch m.Intn(8) {
	case 0:
		e = one.Drop(h)
		got, want = fmt.Sprint("Drop ", e), fmt.Sprint("Drop ", other.Drop(h))
	case 1, 2, 3:
		name := pick(m, p.Binds).Name
		if m.Intn(12) == 0 {
			name = pick(m, someNames)
		}
		var with []int64
		for range pick(m, []int{0, 0, 1, 1, 2, 3, 8, 9}) {
			with = append(with, m.number())
		}
		n, wrong := one.Make(name, with)
		k, bad := other.Make(name, with)
		e = wrong
		got, want = fmt.Sprint("Make ", n, wrong), fmt.Sprint("Make ", k, bad)
	default:
		depth, fuel := m.Intn(10)-m.Intn(30)/29, 200+m.Intn(2000)
		if m.Intn(30) == 0 {
			fuel = pick(m, []int{-1, 0, 1, 5, math.MinInt, math.MaxInt, api.MaxFuel + 1})
		}
		o, wrong := one.Show(h, depth, fuel)
		e = wrong
		got, want = "Show "+shown(o, wrong), "Show "+shown(other.Show(h, depth, fuel))
	}
	got += fmt.Sprint(" ", outText(one.Out()), one.Steps())
	want += fmt.Sprint(" ", outText(other.Out()), other.Steps())
	if got != want {
		return got + "; the model says " + want, e
	}
	return "", e
}

// Random programs of which something is spoiled: New tells what scope.Check tells.
func TestRandomFaults(t *testing.T) {
	m := maker{rand.New(rand.NewSource(3)), 10}
	wrong, right := 0, 0
	for range 3000 {
		p := m.program()
		b := &p.Binds[m.Intn(len(p.Binds))]
		b.At = m.Int()
		spots := []*api.Exp{&b.Form.Body}
		for x := &b.Form.Body; len(x.Kids) > 0; x = &x.Kids[0] {
			spots = append(spots, &x.Kids[0])
		}
		x := pick(m, spots)
		x.At = m.Int()
		switch m.Intn(5) {
		case 0:
			x.Kind = m.Intn(9) - 1
		case 1:
			x.Name = pick(m, []string{"", "a", "nobody", "Nil", "#add", "main"})
		case 2:
			x.Atoms = append(x.Atoms, api.Atom{Name: pick(m, []string{"", "a", "nobody", "main"})})
		case 3:
			b.Name = pick(m, []string{"", "a", "g0", "main"})
		case 4:
			x.Kids, x.Alts = x.Kids[:len(x.Kids)/2], x.Alts[:len(x.Alts)/2]
		}
		at, e := scope.Check(p)
		one, gotAt, got := lazy.New(p)
		if (one != nil) != (e == api.OK) || gotAt != at || got != e {
			t.Fatalf("%v, %d at %d; want %d at %d: %s", one != nil, int(got), gotAt, int(e), at, short(p))
		}
		if e != api.OK {
			wrong++
			continue
		}
		right++
		first(t, asked{p, "main", nil, 8}, 500)
	}
	if wrong < 300 || right < 300 {
		t.Errorf("%d wrong ones, %d right ones: too few", wrong, right)
	}
}
