package code_test

import (
	"maps"
	"math/rand"
	"reflect"
	"slices"
	"testing"

	"midden/api"
	"midden/code"
)

// maker makes random codes that are right, and spoils them.
type maker struct {
	*rand.Rand
	c api.Code
}

func (m *maker) code() api.Code {
	m.c = api.Code{}
	for range m.Intn(4) {
		m.c.Cons = append(m.c.Cons, api.Con{Name: []string{"", "C", "D"}[m.Intn(3)], Arity: m.Intn(9)})
	}
	for i := range 1 + m.Intn(5) {
		f := api.Info{Kind: api.KThunk}
		if m.Intn(2) == 0 {
			f = api.Info{Kind: api.KFun, Arity: 1 + m.Intn(8)}
		}
		if m.Intn(3) > 0 {
			f.Free = m.Intn(5)
		}
		m.c.Infos = append(m.c.Infos, f)
		if f.Free == 0 && m.Intn(3) > 0 {
			m.c.Globals = append(m.c.Globals, api.Global{Name: "g", Info: i})
		}
	}
	for i, f := range m.c.Infos {
		m.c.Infos[i].To = m.begin(f.Arity+f.Free, m.Intn(5))
	}
	return m.c
}

// begin tells where code of so many locals begins: it is laid anew, or stands somewhere already.
func (m *maker) begin(b, room int) int {
	var l []int
	for i, x := range m.c.Insns {
		if x.B == b {
			l = append(l, i)
		}
	}
	if len(l) > 0 && m.Intn(3) == 0 {
		return l[m.Intn(len(l))]
	}
	at := len(m.c.Insns)
	if b > 0 && m.Intn(8) == 0 {
		m.layArms(b, room-1)
	} else {
		m.lay(b, room)
	}
	return at
}

func (m *maker) some(many int, place func() int) []int {
	var l []int
	for range many {
		l = append(l, place())
	}
	return l
}

// lay lays code of so many locals at the end.
func (m *maker) lay(b, room int) {
	place := func() int { return m.Intn(b+len(m.c.Globals)) - len(m.c.Globals) }
	if b+len(m.c.Globals) == 0 {
		m.layLet(b, room)
		return
	}
	way := m.Intn(8)
	if room <= 0 {
		way = m.Intn(3)
	}
	switch way {
	case 0:
		m.c.Insns = append(m.c.Insns, call(b, place(), m.some(m.Intn(9), place)...))
	case 1:
		m.c.Insns = append(m.c.Insns, ret(b, place()))
	case 2:
		which := 1 + m.Intn(16)
		m.c.Insns = append(m.c.Insns, primitive(b, which, m.some(primArgs[which], place)...))
	case 3, 4:
		m.layLet(b, room)
	default:
		at := len(m.c.Insns)
		x := choice(b, 0, m.some(m.Intn(5), place), m.some(m.Intn(5), place))
		m.c.Insns = append(m.c.Insns, x)
		m.lay(len(x.List), room-1)
		for i, o := range m.c.Insns { // arms that stand there already, if they fit
			if o.Op == api.IArms && o.B == len(x.Keep)+1 && m.Intn(2) == 0 {
				m.c.Insns[at].A = i
				return
			}
		}
		m.c.Insns[at].A = len(m.c.Insns)
		m.layArms(len(x.Keep)+1, room-1)
	}
}

func (m *maker) layLet(b, room int) {
	many := 1 + m.Intn(4)
	place := func() int { return m.Intn(b+many+len(m.c.Globals)) - len(m.c.Globals) }
	x := let(b)
	for range many {
		x.Makes = append(x.Makes, m.made(place))
	}
	m.c.Insns = append(m.c.Insns, x)
	m.lay(b+many, room-1)
}

func (m *maker) made(place func() int) api.Make {
	i := m.Intn(len(m.c.Infos))
	f := m.c.Infos[i]
	if m.Intn(2) == 0 {
		return api.Make{Kind: f.Kind, Info: i, From: m.some(f.Free, place)}
	}
	if len(m.c.Cons) == 0 || m.Intn(3) == 0 {
		return num(m.Int63() - m.Int63())
	}
	i = m.Intn(len(m.c.Cons))
	fields := m.c.Cons[i].Arity
	if fields > 0 && m.Intn(2) == 0 {
		return pick(i, int64(m.Intn(fields)), place())
	}
	return con(i, m.some(fields, place)...)
}

func (m *maker) layArms(b, room int) {
	at := len(m.c.Insns)
	m.c.Insns = append(m.c.Insns, arms(b))
	var l []api.Arm
	for range 1 + m.Intn(3) {
		switch way := m.Intn(4); {
		case way < 2 && len(m.c.Cons) > 0:
			n := m.Intn(len(m.c.Cons))
			l = append(l, onCon(n, m.begin(b+m.c.Cons[n].Arity, room-1)))
		case way == 2:
			l = append(l, onInt(m.Int63(), m.begin(b, room-1)))
		default:
			l = append(l, onAll(m.begin(b, room-1)))
		}
	}
	m.c.Insns[at].Arms = l
}

// scramble puts something or other where nothing is named.
func (m *maker) scramble(c *api.Code) {
	knobs(c, func(v reflect.Value, named bool) {
		if named || m.Intn(2) == 0 {
			return
		}
		switch v.Kind() {
		case reflect.Slice:
			for range m.Intn(4) {
				v.Set(reflect.Append(v, reflect.Zero(v.Type().Elem())))
			}
		default:
			v.SetInt(int64(someNumbers[m.Intn(len(someNumbers))]))
		}
	})
}

// spoil turns one of the code's knobs.
func (m *maker) spoil(c *api.Code) {
	many := 0
	knobs(c, func(v reflect.Value, named bool) { many++ })
	at, all := m.Intn(many), 0
	knobs(c, func(v reflect.Value, named bool) {
		if all++; all-1 != at {
			return
		}
		switch v.Kind() {
		case reflect.Int, reflect.Int64:
			n := int64(m.Intn(7) - 3)
			switch m.Intn(4) {
			case 0:
				n += v.Int()
			case 1:
				n = int64(m.Intn(len(c.Insns) + 1))
			case 2:
				n = int64(someNumbers[m.Intn(len(someNumbers))])
			}
			v.SetInt(n)
		default:
			l := turns(v)
			l[m.Intn(len(l))](v)
		}
	})
}

// hold holds Check to the model, and what it takes for right to P12.4.
func hold(t *testing.T, c api.Code) fault {
	t.Helper()
	w := model(c)
	want(t, c, w)
	if w == (fault{}) {
		if s := follow(c); s != "" {
			t.Errorf("%s: %s", s, short(c))
		}
		rightHeads(t, c)
	}
	return w
}

// P12.1, P12.4: random codes that are right, with something where nothing is named.
func TestRandomRightCodes(t *testing.T) {
	m := maker{Rand: rand.New(rand.NewSource(1))}
	ops, kinds := map[int]int{}, map[int]int{}
	for range 3000 {
		c := m.code()
		agree(t, c, fault{})
		b := copied(c)
		m.scramble(&b)
		wantSame(t, b, c, true)
		agree(t, b, fault{})
		hold(t, b)
		for _, x := range c.Insns {
			ops[x.Op]++
			for _, k := range x.Makes {
				kinds[k.Kind]++
			}
		}
	}
	if len(ops) != 6 || slices.Min(slices.Collect(maps.Values(ops))) < 500 {
		t.Errorf("too few of an Op: %v", ops)
	}
	if len(kinds) != 5 || slices.Min(slices.Collect(maps.Values(kinds))) < 500 {
		t.Errorf("too few of a Kind: %v", kinds)
	}
}

// Codes that were right, with one thing or some that are other.
func TestRandomSpoiledCodes(t *testing.T) {
	m := maker{Rand: rand.New(rand.NewSource(2))}
	count := map[api.Errno]int{}
	for range 20000 {
		c := copied(m.code())
		if m.Intn(4) == 0 {
			m.scramble(&c)
		}
		for range 1 + m.Intn(3) {
			m.spoil(&c)
		}
		count[hold(t, c).e]++
	}
	for _, e := range []api.Errno{api.OK, api.ErrKind, api.ErrSize, api.ErrArity, api.ErrCon, api.ErrPrim, api.ErrRange} {
		if count[e] < 100 {
			t.Errorf("error %d was told %d times: too few", int(e), count[e])
		}
	}
}

// P12.3: codes that part in some things are the same just if all that is named is; then Check says the same of both.
func TestRandomSame(t *testing.T) {
	m := maker{Rand: rand.New(rand.NewSource(3))}
	count := map[bool]int{}
	for range 6000 {
		a := copied(m.code())
		m.spoil(&a)
		m.scramble(&a)
		b := copied(a)
		m.scramble(&b)
		for range m.Intn(2) {
			m.spoil(&b)
		}
		is := told(a) == told(b)
		count[is]++
		wantSame(t, a, b, is)
		if is && model(a) != model(b) {
			t.Errorf("the same, but %v, %v: %s", model(a), model(b), short(a))
		}
		hold(t, a)
		hold(t, b)
		wantSame(t, a, m.code(), false)
	}
	if count[true] < 1000 || count[false] < 1000 {
		t.Errorf("the same: %v: too few", count)
	}
}

// Small codes with any numbers in any field.
func TestJunk(t *testing.T) {
	m := maker{Rand: rand.New(rand.NewSource(4))}
	number := func() int {
		if m.Intn(6) == 0 {
			return someNumbers[m.Intn(len(someNumbers))]
		}
		return m.Intn(8) - 2
	}
	list := func() []int { return m.some(m.Intn(4), number) }
	for range 20000 {
		c := copied(about())
		for range m.Intn(4) {
			x := api.Insn{Op: number(), A: number(), B: number(), List: list(), Keep: list()}
			for range m.Intn(3) {
				x.Makes = append(x.Makes, api.Make{Kind: number(), Info: number(), N: int64(number()), From: list()})
				x.Arms = append(x.Arms, api.Arm{Kind: number(), Con: number(), N: int64(number()), To: number()})
			}
			c.Insns = append(c.Insns, x)
		}
		for range m.Intn(2) {
			m.spoil(&c)
		}
		hold(t, c)
		if !code.Same(c, copied(c)) {
			t.Errorf("not the same as itself: %s", short(c))
		}
	}
}
