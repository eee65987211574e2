package scope_test

import (
	"fmt"
	"math"
	"math/rand"
	"slices"
	"testing"

	"midden/api"
	"midden/scope"
)

// maker makes random programs that are right, and spoils them.
type maker struct {
	*rand.Rand
	datas []api.Data
	at    int
}

var someNumbers = []int64{0, 1, -1, 2, 3, 1 << 32, math.MaxInt64, math.MinInt64}

// Few names, so that inner ones are often the same as outer ones.
var someNames = []string{"a", "b", "c", "d", "e", "f", "g", "h", "i", "main"}

func (m *maker) place() int {
	m.at++
	return m.at
}

func (m *maker) number() int64 { return someNumbers[m.Intn(len(someNumbers))] }

// unlike takes so many of the names.
func (m *maker) unlike(n int) []string {
	l := slices.Clone(someNames)
	m.Shuffle(len(l), func(i, j int) { l[i], l[j] = l[j], l[i] })
	return l[:n:n]
}

func (m *maker) atoms(names []string, n int) []api.Atom {
	var l []api.Atom
	for range n {
		if len(names) > 0 && m.Intn(3) > 0 {
			l = append(l, named(names[m.Intn(len(names))]))
		} else {
			l = append(l, atom(m.number()))
		}
	}
	return l
}

func (m *maker) program() api.Program {
	m.datas, m.at = nil, 0
	for i := range 1 + m.Intn(4) {
		m.datas = append(m.datas, data(m.place(), fmt.Sprint("C", i), m.Intn(5)))
	}
	m.datas[m.Intn(len(m.datas))].Arity = m.Intn(9)
	names := append(m.unlike(m.Intn(4)), "main")
	slices.Sort(names)
	names = slices.Compact(names)
	m.Shuffle(len(names), func(i, j int) { names[i], names[j] = names[j], names[i] })
	return api.Program{Datas: slices.Clone(m.datas), Binds: m.group(names, nil, 1+m.Intn(4))}
}

// group makes binds of these names, in the scope of the others.
func (m *maker) group(names, outer []string, room int) []api.Bind {
	var l []api.Bind
	for _, name := range names {
		l = append(l, m.bind(name, slices.Concat(outer, names), room))
	}
	return l
}

func (m *maker) bind(name string, names []string, room int) api.Bind {
	var args []string
	if m.Intn(2) == 0 {
		args = m.unlike(m.Intn(9))
	}
	at := m.place()
	return bind(at, name, m.exp(slices.Concat(names, args), room), args...)
}

func (m *maker) exp(names []string, room int) api.Exp {
	way := m.Intn(7)
	if room <= 0 {
		way = m.Intn(4)
	}
	at := m.place()
	switch way {
	case 0:
		if len(names) > 0 {
			return app(at, names[m.Intn(len(names))], m.atoms(names, m.Intn(9))...)
		}
	case 1:
		d := m.datas[m.Intn(len(m.datas))]
		return con(at, d.Name, m.atoms(names, d.Arity)...)
	case 2:
		name := []string{"#add", "#emit", "#put", "#len", "#seq"}[m.Intn(5)]
		return prim(at, name, m.atoms(names, primArgs[name])...)
	case 4:
		inner := m.unlike(1 + m.Intn(3))
		l := m.group(inner, names, room-1)
		return let(at, m.exp(slices.Concat(names, inner), room-1), l...)
	case 5, 6:
		asked := m.exp(names, room-1)
		return choice(at, asked, m.alts(names, room-1)...)
	}
	return num(at, m.number())
}

func (m *maker) alts(names []string, room int) []api.Alt {
	var l []api.Alt
	for _, d := range m.datas {
		if m.Intn(2) == 0 {
			vars := m.unlike(d.Arity)
			l = append(l, onCon(m.place(), d.Name, m.exp(slices.Concat(names, vars), room), vars...))
		}
	}
	for _, n := range someNumbers {
		if m.Intn(6) == 0 {
			l = append(l, onInt(m.place(), n, m.exp(names, room)))
		}
	}
	m.Shuffle(len(l), func(i, j int) { l[i], l[j] = l[j], l[i] })
	if len(l) == 0 || m.Intn(2) == 0 {
		name := m.unlike(1)[0]
		l = append(l, onAll(m.place(), name, m.exp(append(slices.Clone(names), name), room)))
	}
	return l
}

func TestRandomRightPrograms(t *testing.T) {
	m := &maker{Rand: rand.New(rand.NewSource(1))}
	for range 4000 {
		agree(t, m.program(), fault{})
	}
}

// all tells where all expressions, binds and alternatives of a program stand.
func all(p *api.Program) (xs []*api.Exp, bs []*api.Bind, as []*api.Alt) {
	var exp func(x *api.Exp)
	exp = func(x *api.Exp) {
		xs = append(xs, x)
		for i := range x.Binds {
			bs = append(bs, &x.Binds[i])
			exp(&x.Binds[i].Form.Body)
		}
		for i := range x.Kids {
			exp(&x.Kids[i])
		}
		for i := range x.Alts {
			as = append(as, &x.Alts[i])
			exp(&x.Alts[i].Body)
		}
	}
	for i := range p.Binds {
		bs = append(bs, &p.Binds[i])
		exp(&p.Binds[i].Form.Body)
	}
	return xs, bs, as
}

func (m *maker) name() string {
	return append([]string{"", "no", "C0", "C1"}, someNames...)[m.Intn(14)]
}

func (m *maker) names() []string {
	var l []string
	for range m.Intn(10) {
		l = append(l, m.name())
	}
	return l
}

// spoil puts something or other in one place of the program; it may be right all the same.
func (m *maker) spoil(p *api.Program) {
	xs, bs, as := all(p)
	x, b := xs[m.Intn(len(xs))], bs[m.Intn(len(bs))]
	switch m.Intn(17) {
	case 0:
		p.Datas[m.Intn(len(p.Datas))].Arity = []int{-1, 0, 8, 9, math.MinInt}[m.Intn(5)]
	case 1:
		p.Datas[m.Intn(len(p.Datas))].Name = fmt.Sprint("C", m.Intn(4))
	case 2:
		b.Name = m.name()
	case 3:
		b.Form.Args = m.names()
	case 4, 5:
		x.Name = m.name()
	case 6:
		x.Atoms = m.atoms(append(someNames, "no"), m.Intn(11))
	case 7:
		x.Kind = []int{-1, 0, 1, 2, 3, 4, 5, 6, 7}[m.Intn(9)]
	case 8:
		x.Kids = nil
	case 9:
		x.Kids = append(x.Kids, api.Exp{})
	case 10:
		x.Binds, x.Alts = x.Binds[:0], x.Alts[:0]
	case 11:
		x.Binds = append(x.Binds, m.bind(m.name(), someNames, 0))
	case 12:
		x.Alts = append(x.Alts, onInt(m.place(), m.number(), num(m.place(), 1)))
	default:
		if len(as) > 0 {
			m.spoilAlt(as[m.Intn(len(as))])
		}
	}
}

func (m *maker) spoilAlt(a *api.Alt) {
	switch m.Intn(5) {
	case 0:
		a.Kind = m.Intn(5)
	case 1:
		a.Name = m.name()
	case 2:
		a.N = m.number()
	case 3:
		a.Vars = m.names()
	case 4:
		if len(a.Vars) > 0 {
			a.Vars[m.Intn(len(a.Vars))] = m.name()
		}
	}
}

func TestRandomSpoiledPrograms(t *testing.T) {
	m := &maker{Rand: rand.New(rand.NewSource(2))}
	told := map[api.Errno]int{}
	for range 12000 {
		p := m.program()
		for range 1 + m.Intn(3) {
			m.spoil(&p)
		}
		w := model(p)
		told[w.e]++
		want(t, p, w)
	}
	for _, e := range []api.Errno{api.OK, api.ErrArg, api.ErrTwice, api.ErrName, api.ErrCon, api.ErrArity, api.ErrPrim, api.ErrLast, api.ErrMain} {
		if told[e] < 30 {
			t.Errorf("%d was told %d times: too few", int(e), told[e])
		}
	}
}

// P9.3 (other names): right just if it was; and as the places are the same, so is what is wrong.

func TestOtherNames(t *testing.T) {
	m := &maker{Rand: rand.New(rand.NewSource(3))}
	right := 0
	for range 6000 {
		p := m.program()
		for range m.Intn(3) {
			m.spoil(&p)
		}
		from := append(slices.Clone(someNames[:len(someNames)-1]), "no", "C0", "C1")
		to := slices.Clone(from)
		if m.Intn(2) == 0 { // new ones, else the same in another order
			for i := range to {
				to[i] = fmt.Sprint("n", i, "\x00\xff")
			}
		}
		m.Shuffle(len(to), func(i, j int) { to[i], to[j] = to[j], to[i] })
		turn := func(name string) string {
			if i := slices.Index(from, name); i >= 0 {
				return to[i]
			}
			return name
		}
		q := copied(p)
		for i := range q.Binds {
			rename(&q.Binds[i], turn, turn)
		}
		at, e := scope.Check(p)
		want(t, q, fault{at, e})
		if e == api.OK {
			right++
		}
	}
	if right < 1000 {
		t.Errorf("%d were right: too few", right)
	}
	p, _ := text(t, `f = \ a b -> let { c = a; } in case c of { d -> f d b; }; main = f 1;`)
	want(t, p, fault{})
	p, _ = text(t, `a = \ f d -> let { b = f; } in case b of { c -> a c d; }; main = a 1;`)
	want(t, p, fault{})
	p, at := text(t, `f = \ a b -> let { c = a; } in case c of { d -> f d b; }; main = ^f d;`)
	want(t, p, fault{at, api.ErrName})
	p, at = text(t, `a = \ f d -> let { b = f; } in case b of { c -> a c d; }; main = ^a c;`)
	want(t, p, fault{at, api.ErrName})
}

// P9.4 (more): one bind more, anywhere, whatever its new name is.

func TestOneBindMore(t *testing.T) {
	m := &maker{Rand: rand.New(rand.NewSource(4))}
	for range 600 {
		p := m.program()
		want(t, p, fault{})
		have := bindNames(p.Binds)
		for _, name := range append(slices.Clone(someNames), "x", "C0", "#add", " ") {
			if slices.Contains(have, name) {
				continue
			}
			more := m.bind(name, []string{name}, m.Intn(3)) // right by itself: of no bind but itself
			want(t, api.Program{Datas: p.Datas, Binds: []api.Bind{more, bind(1, "main", num(1, 1))}}, fault{})
			q := copied(p)
			q.Binds = slices.Insert(q.Binds, m.Intn(len(q.Binds)+1), more)
			want(t, q, fault{})
		}
	}
	holdTexts(t, []marked{
		{`f = \ x -> x; main = f 1;`, api.OK},
		{`x = \ f -> f main; f = \ x -> x; main = f 1;`, api.OK},
		{`f = \ x -> x; x = x; main = f 1;`, api.OK},
		{`f = \ x -> x; main = f 1; g = \ y -> g y;`, api.OK},
		{`f = \ x -> x; main = f 1; g = \ y -> ^z;`, api.ErrName},
		{`f = \ x -> x; main = f 1; ^f = \ y -> y;`, api.ErrTwice},
	})
}

// Trees of something or other, of few names and kinds, whatever that is.

type junk struct{ *maker }

func manyOf[T any](j junk, n int, one func() T) []T {
	var l []T
	if j.Intn(2) == 0 {
		l = make([]T, 0, n+1) // with spare room
	}
	for range j.Intn(n) {
		l = append(l, one())
	}
	return l
}

func (j junk) kind() int {
	return append([]int{-1, 7, math.MaxInt}, slices.Repeat([]int{0, 1, 2, 3, 4, 5, 6}, 3)...)[j.Intn(24)]
}

func (j junk) exp(room int) api.Exp {
	x := api.Exp{Kind: j.kind(), At: j.place(), Name: j.name(), N: j.number()}
	x.Atoms = manyOf(j, 3, func() api.Atom { return api.Atom{Name: j.name(), N: j.number()} })
	if room > 0 {
		x.Binds = manyOf(j, 3, func() api.Bind { return j.bind(room - 1) })
		x.Kids = manyOf(j, 3, func() api.Exp { return j.exp(room - 1) })
		x.Alts = manyOf(j, 3, func() api.Alt { return j.alt(room - 1) })
	}
	return x
}

func (j junk) alt(room int) api.Alt {
	return api.Alt{Kind: j.Intn(5), At: j.place(), Name: j.name(), N: j.number(), Vars: manyOf(j, 3, j.name), Body: j.exp(room)}
}

func (j junk) bind(room int) api.Bind {
	return api.Bind{Name: j.name(), At: j.place(), Form: api.Form{Args: manyOf(j, 3, j.name), Body: j.exp(room)}}
}

func TestJunk(t *testing.T) {
	j := junk{&maker{Rand: rand.New(rand.NewSource(5))}}
	for range 6000 {
		p := api.Program{Binds: manyOf(j, 5, func() api.Bind { return j.bind(j.Intn(4)) })}
		p.Datas = manyOf(j, 4, func() api.Data { return data(j.place(), j.name(), j.Intn(3)) })
		want(t, p, model(p))
		for _, name := range []string{"", "C0", "a", "none"} {
			var w api.Data
			i := slices.IndexFunc(p.Datas, func(d api.Data) bool { return d.Name == name })
			if i >= 0 {
				w = p.Datas[i]
			}
			if n, ok := scope.Arity(p, name); n != w.Arity || ok != (i >= 0) {
				t.Errorf("Arity of %q: %d, %v; want %d: %s", name, n, ok, w.Arity, short(p))
			}
		}
	}
}
