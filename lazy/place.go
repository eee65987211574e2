package lazy

import (
	"midden/api"
	"midden/prim"
	"midden/vars"
)

// place is where a name stands: in the scope of that level (0: the program's), the thing of that number.
type place struct{ level, index int }

// atom is a name's place, or a number.
type atom struct {
	named bool
	at    place
	n     int64
}

// form is one of the program's, its names turned into places.
type form struct {
	args int
	body *exp
}

// bind is one of a let's.
type bind struct {
	class int
	form  *form
}

// exp is an expression of the program's, its names turned into places.
type exp struct {
	kind  int
	n     int64 // an XInt's number, an XCon's constructor
	prim  int
	tell  teller // an XPrim's
	of    place  // an XApp's Name
	atoms []atom
	binds []bind
	kid   *exp           // a let's body; what a case asks
	arms  map[value]*exp // what a case goes on with, of each value that an alternative names
	other *exp           // and of all others; nil: nothing
}

// value is what an alternative names: a number, or a constructor. A right case names none twice, and takes all others
// last, so that the first alternative that fits can be looked up.
type value struct {
	is int
	n  int64
}

// placer turns a right program's names into places.
type placer struct {
	cons   map[string]int64
	stands map[string][]place // the last one counts
	level  int                // how many scopes are around, but for the program's
}

// laid makes a machine of a right program, of which it keeps nothing but names.
func laid(p api.Program) *Machine {
	m := &Machine{binds: map[string]int{}, handles: map[int]*thing{}}
	l := placer{cons: map[string]int64{}, stands: map[string][]place{}}
	for i, d := range p.Datas {
		m.cons = append(m.cons, d.Name)
		l.cons[d.Name] = int64(i)
	}
	var things []*thing
	for i, b := range p.Binds {
		m.binds[b.Name] = i
		l.stands[b.Name] = []place{{0, i}}
		things = append(things, &thing{is: need})
	}
	m.globals = outmost(things)
	for i, b := range p.Binds {
		t := things[i]
		t.form, t.names = l.form(b.Form), m.globals
		if t.form.args > 0 {
			t.is = function
		}
	}
	return m
}

// inside lays what the function that is handed over lays, in a scope of these names.
func (l *placer) inside(names []string, lay func()) {
	if len(names) == 0 {
		lay()
		return
	}
	l.level++
	for i, name := range names {
		l.stands[name] = append(l.stands[name], place{l.level, i})
	}
	lay()
	for _, name := range names {
		l.stands[name] = l.stands[name][:len(l.stands[name])-1]
	}
	l.level--
}

func (l *placer) place(name string) place {
	all := l.stands[name]
	return all[len(all)-1]
}

func (l *placer) atoms(list []api.Atom) []atom {
	var all []atom
	for _, a := range list {
		if a.Name == "" {
			all = append(all, atom{n: a.N})
		} else {
			all = append(all, atom{named: true, at: l.place(a.Name)})
		}
	}
	return all
}

func (l *placer) form(f api.Form) *form {
	laid := &form{args: len(f.Args)}
	l.inside(f.Args, func() { laid.body = l.exp(f.Body) })
	return laid
}

func (l *placer) exp(x api.Exp) *exp {
	laid := &exp{kind: x.Kind}
	switch x.Kind {
	case api.XInt:
		laid.n = x.N
	case api.XCon:
		laid.n, laid.atoms = l.cons[x.Name], l.atoms(x.Atoms)
	case api.XApp:
		laid.of, laid.atoms = l.place(x.Name), l.atoms(x.Atoms)
	case api.XPrim:
		laid.prim, laid.atoms = prim.Find(x.Name), l.atoms(x.Atoms)
		laid.tell = tellerOf(laid.prim)
	case api.XLet:
		l.let(x, laid)
	case api.XCase:
		l.choice(x, laid)
	}
	return laid
}

func (l *placer) let(x api.Exp, laid *exp) {
	var all []string
	for _, b := range x.Binds {
		all = append(all, b.Name)
	}
	l.inside(all, func() {
		for _, b := range x.Binds {
			laid.binds = append(laid.binds, bind{vars.Class(b.Form), l.form(b.Form)})
		}
		laid.kid = l.exp(x.Kids[0])
	})
}

func (l *placer) choice(x api.Exp, laid *exp) {
	laid.kid = l.exp(x.Kids[0])
	laid.arms = map[value]*exp{}
	for _, a := range x.Alts {
		switch a.Kind {
		case api.ACon:
			l.inside(a.Vars, func() { laid.arms[value{constructor, l.cons[a.Name]}] = l.exp(a.Body) })
		case api.AInt:
			laid.arms[value{number, a.N}] = l.exp(a.Body)
		case api.AAll:
			l.inside([]string{a.Name}, func() { laid.other = l.exp(a.Body) })
		}
	}
}
