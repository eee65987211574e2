package gen

import "midden/api"

// part is what must be known of an expression ahead of laying it. All parts are found in one reading: if each form were
// asked for its free names where it is met, one far within others would be read again and again.
type part struct {
	needs []string // of a form, of what a case asks: names that stand for locals around it, in the order of reading
	keep  []string // of a case: such names of its alternatives
	kids  []part   // those of the expressions in it, in the order of reading
}

// need is a list of names that is being found.
type need struct {
	names []string
	most  int
}

// reader goes over expressions in the order of reading.
type reader struct {
	open  []need // each is found within the one ahead of it
	bound names  // of how many open ones, from the first on, nothing is left to be done for this name
	big   bool
}

// partsOf tells the parts of the binds' forms; false, if one in them needs more than it may.
func partsOf(l []api.Bind) ([]part, bool) {
	r := reader{bound: names{}}
	var all []part
	for _, b := range l {
		all = append(all, r.form(b.Form))
	}
	return all, !r.big
}

// finding tells the locals that were bound ahead of it, and are needed by what is read meanwhile.
func (r *reader) finding(most int, read func()) []string {
	n := len(r.open)
	r.open = append(r.open, need{most: most})
	read()
	found := r.open[n].names
	r.open = r.open[:n]
	for _, name := range found {
		r.bound[name] = n
	}
	return found
}

// binding reads where names are bound: what is open by then does not need them.
func (r *reader) binding(list []string, read func()) {
	n := len(r.open)
	r.bound.inside(list, func(int) int { return n }, read)
}

func (r *reader) name(name string) {
	first, local := r.bound[name]
	if !local || r.big {
		return
	}
	for i := first; i < len(r.open); i++ {
		n := &r.open[i]
		n.names = append(n.names, name)
		r.big = r.big || len(n.names) > n.most
	}
	r.bound[name] = len(r.open)
}

func (r *reader) atoms(l []api.Atom) {
	for _, a := range l {
		r.name(a.Name)
	}
}

func (r *reader) form(f api.Form) part {
	var p part
	needs := r.finding(api.MaxFree, func() {
		r.binding(f.Args, func() { p = r.exp(f.Body) })
	})
	p.needs = needs
	return p
}

func (r *reader) exp(x api.Exp) part {
	switch x.Kind {
	case api.XApp:
		r.name(x.Name)
		r.atoms(x.Atoms)
	case api.XCon, api.XPrim:
		r.atoms(x.Atoms)
	case api.XLet:
		return r.let(x)
	case api.XCase:
		return r.choice(x)
	}
	return part{}
}

func (r *reader) let(x api.Exp) part {
	var p part
	r.binding(namesOf(x.Binds), func() {
		for _, b := range x.Binds {
			p.kids = append(p.kids, r.form(b.Form))
		}
		p.kids = append(p.kids, r.exp(x.Kids[0]))
	})
	return p
}

// choice finds what is needed of so many locals as an instruction may have: who needs more has more.
func (r *reader) choice(x api.Exp) part {
	var asked part
	needs := r.finding(api.MaxLocals, func() { asked = r.exp(x.Kids[0]) })
	asked.needs = needs
	p := part{kids: []part{asked}}
	p.keep = r.finding(api.MaxLocals, func() {
		for _, a := range x.Alts {
			r.binding(boundBy(a), func() { p.kids = append(p.kids, r.exp(a.Body)) })
		}
	})
	return p
}
