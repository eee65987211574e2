package vars_test

import (
	"math"
	"math/rand"
	"slices"
	"testing"

	"midden/api"
	"midden/scope"
)

// maker makes random forms of few names, so that inner ones are often the same as outer ones.
type maker struct {
	*rand.Rand
	names func() string // one of those that may stand there
}

var someNames = []string{"a", "b", "c", "d", "e", "f", "main"}

var someNumbers = []int64{0, 1, -1, 7, 1 << 32, math.MaxInt64, math.MinInt64}

func (m maker) number() int64 { return someNumbers[m.Intn(len(someNumbers))] }

func manyOf[T any](m maker, n int, one func() T) []T {
	var l []T
	if m.Intn(2) == 0 {
		l = make([]T, 0, n+1) // with spare room
	}
	for range n {
		l = append(l, one())
	}
	return l
}

func (m maker) atom() api.Atom {
	if m.Intn(3) == 0 {
		return atom(m.number())
	}
	return api.Atom{Name: m.names(), N: m.number()}
}

// junk is an expression with something or other in all of its fields.
func (m maker) junk(room int) api.Exp {
	kinds := append([]int{-1, 0, 7, 1 << 32, math.MaxInt, 4}, slices.Repeat([]int{1, 2, 3, 5, 5, 6, 6}, 5)...)
	x := api.Exp{Kind: kinds[m.Intn(len(kinds))], At: m.Int(), Name: m.names(), N: m.number()}
	x.Atoms = manyOf(m, m.Intn(6), m.atom)
	if room > 0 {
		x.Binds = manyOf(m, m.Intn(3), func() api.Bind { return api.Bind{Name: m.names(), Form: m.junkForm(room - 1)} })
		x.Kids = manyOf(m, max(1, m.Intn(4))-m.Intn(5)/4, func() api.Exp { return m.junk(room - 1) })
		x.Alts = manyOf(m, m.Intn(3), func() api.Alt { return m.junkAlt(room - 1) })
	}
	return x
}

func (m maker) junkAlt(room int) api.Alt {
	kinds := []int{-1, 0, 1, 1, 1, 2, 2, 3, 3, 4, 1<<32 + 1}
	return api.Alt{Kind: kinds[m.Intn(len(kinds))], At: m.Int(), Name: m.names(), N: m.number(), Vars: manyOf(m, m.Intn(4), m.names), Body: m.junk(room)}
}

func (m maker) junkForm(room int) api.Form {
	return api.Form{Args: manyOf(m, m.Intn(3), m.names), Body: m.junk(room)}
}

func junkMaker(seed int64) maker {
	m := maker{Rand: rand.New(rand.NewSource(seed))}
	all := append([]string{"", "g", "h", "i", "j", "k", "l", "m", "n"}, someNames...)
	m.names = func() string { return all[m.Intn(len(all))] }
	return m
}

func TestJunk(t *testing.T) {
	m := junkMaker(1)
	many := map[int]int{}
	for range 5000 {
		f := m.junkForm(m.Intn(5))
		many[len(model(f))]++
		byModel(t, f)
	}
	for n := range 6 {
		if many[n] < 60 {
			t.Errorf("%d names were free %d times: too few", n, many[n])
		}
	}
}

// P10.2, P10.3: forms that pick a field, or nearly.
func TestNearlyFields(t *testing.T) {
	m := junkMaker(2)
	few := []string{"a", "b", ""}
	name := func() string { return few[m.Intn(len(few))] }
	kind := func(right int) int {
		return append([]int{0, 1, 2, 3, 4, 5, 6, 7}, slices.Repeat([]int{right}, 24)...)[m.Intn(32)]
	}
	seldom := func() int { return max(0, m.Intn(9)-7) }
	classes := map[int]int{}
	for range 30000 {
		alone := func() api.Exp {
			return api.Exp{Kind: kind(api.XApp), Name: name(), Atoms: manyOf(m, seldom(), m.atom)}
		}
		f := api.Form{Args: manyOf(m, seldom(), name), Body: api.Exp{Kind: kind(api.XCase), Name: name()}}
		f.Body.Kids = manyOf(m, max(1, m.Intn(4))-seldom(), alone)
		f.Body.Alts = manyOf(m, 1+seldom()-seldom(), func() api.Alt {
			return api.Alt{Kind: kind(api.ACon), Name: name(), Vars: manyOf(m, m.Intn(5), name), Body: alone()}
		})
		classes[modelClass(f)]++
		byModel(t, f)
	}
	for _, class := range []int{api.KFun, api.KCon, api.KInt, api.KSel, api.KThunk} {
		if classes[class] < 300 {
			t.Errorf("the class %d was told %d times: too few", class, classes[class])
		}
	}
}

// P10.4 of random forms: a name that is free in them, one that is bound, a new one.
func TestRandomArgumentMore(t *testing.T) {
	m := junkMaker(3)
	for range 2000 {
		f := m.junkForm(m.Intn(4))
		for _, name := range append([]string{"", "g", "new"}, someNames...) {
			oneMore(t, f, name)
		}
	}
}

// P10.5 of random programs that are right: each name that stands there is one of those in scope.

// right makes an expression in which names that are in scope stand, and no others.
func (m maker) right(names []string, room int) api.Exp {
	m.names = func() string { return names[m.Intn(len(names))] }
	way := m.Intn(8)
	if room <= 0 {
		way = m.Intn(4)
	}
	switch way {
	case 0:
		return app(m.names(), manyOf(m, m.Intn(9), m.atom)...)
	case 1:
		return con("C", manyOf(m, 2, m.atom)...)
	case 2:
		return prim("#add", manyOf(m, 2, m.atom)...)
	case 3:
		return num(m.number())
	case 4, 5:
		own := m.unlike(1 + m.Intn(3))
		l := m.group(own, names, room-1)
		return let(m.right(slices.Concat(names, own), room-1), l...)
	}
	x := choice(m.right(names, room-1))
	if m.Intn(2) == 0 {
		own := m.unlike(2)
		x.Alts = append(x.Alts, onCon("C", m.right(slices.Concat(names, own), room-1), own...))
	}
	if m.Intn(2) == 0 {
		x.Alts = append(x.Alts, onInt(m.number(), m.right(names, room-1)))
	}
	own := m.unlike(1)
	x.Alts = append(x.Alts, onAll(own[0], m.right(slices.Concat(names, own), room-1)))
	return x
}

// unlike takes so many of the names.
func (m maker) unlike(n int) []string {
	l := slices.Clone(someNames)
	m.Shuffle(len(l), func(i, j int) { l[i], l[j] = l[j], l[i] })
	return l[:n:n]
}

// group makes binds of these names, in the scope of the others.
func (m maker) group(names, outer []string, room int) []api.Bind {
	var l []api.Bind
	for _, name := range names {
		args := m.unlike(m.Intn(4))
		l = append(l, bind(name, m.right(slices.Concat(outer, names, args), room), args...))
	}
	return l
}

func (m maker) program() api.Program {
	names := slices.Compact(slices.Sorted(slices.Values(append(m.unlike(m.Intn(4)), "main"))))
	return api.Program{Datas: []api.Data{{Name: "C", Arity: 2}}, Binds: m.group(names, nil, 1+m.Intn(4))}
}

func TestRandomRightPrograms(t *testing.T) {
	m := maker{Rand: rand.New(rand.NewSource(4))}
	for range 3000 {
		onlyBinds(t, m.program())
	}
}

// The other way round: of a program that is right but for names that are not in scope, a form has one free that is no bind's.
func TestRandomNamesOutOfScope(t *testing.T) {
	m := maker{Rand: rand.New(rand.NewSource(5))}
	wrong := 0
	for range 3000 {
		p := m.program()
		i := m.Intn(len(p.Binds))
		out := m.right(append(slices.Clone(someNames), "no"), m.Intn(3))
		p.Binds[i].Form.Body = let(p.Binds[i].Form.Body, bind("x", out))
		names := []string{"x"}
		for _, b := range p.Binds {
			names = append(names, b.Name)
		}
		beyond := slices.ContainsFunc(model(p.Binds[i].Form), func(name string) bool { return !slices.Contains(names, name) })
		if _, e := scope.Check(p); (e == api.ErrName) != beyond || e != api.OK && e != api.ErrName {
			t.Errorf("%d, and beyond its scope: %v: %s", int(e), beyond, short(p))
		}
		if beyond {
			wrong++
		}
		byModel(t, p.Binds[i].Form)
	}
	if wrong < 1000 {
		t.Errorf("%d were wrong: too few", wrong)
	}
}
