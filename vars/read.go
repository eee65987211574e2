package vars

import (
	"slices"

	"midden/api"
)

// reader goes over an expression in the order of reading. Names are counted in maps, as there may be many, far within
// one another.
type reader struct {
	bound map[string]int // how many around the place that is read have bound each name
	met   map[string]int // how often each name was read where it is free
	free  []string
}

// around reads what the function that is handed over reads, with some more names bound around it.
func (r *reader) around(read func(), names ...string) {
	for _, name := range names {
		r.bound[name]++
	}
	read()
	for _, name := range names {
		r.bound[name]--
	}
}

// name reads one that stands in an expression. An empty one is none: an atom without a name is a number.
func (r *reader) name(name string) {
	if name == "" || r.bound[name] > 0 {
		return
	}
	if r.met[name] == 0 {
		r.free = append(r.free, name)
	}
	r.met[name]++
}

func (r *reader) exp(x api.Exp) {
	switch x.Kind {
	case api.XApp:
		r.name(x.Name)
		r.atoms(x.Atoms)
	case api.XCon, api.XPrim:
		r.atoms(x.Atoms)
	case api.XLet:
		r.let(x)
	case api.XCase:
		r.firstOf(x.Kids)
		r.alts(x.Alts)
	}
}

func (r *reader) atoms(l []api.Atom) {
	for _, a := range l {
		r.name(a.Name)
	}
}

// firstOf reads the kid that counts, if there is one.
func (r *reader) firstOf(kids []api.Exp) {
	if len(kids) > 0 {
		r.exp(kids[0])
	}
}

func (r *reader) let(x api.Exp) {
	r.around(func() {
		for _, b := range x.Binds {
			r.around(func() { r.exp(b.Form.Body) }, b.Form.Args...)
		}
		r.firstOf(x.Kids)
	}, namesOf(x.Binds)...)
}

func namesOf(l []api.Bind) []string {
	var all []string
	for _, b := range l {
		all = append(all, b.Name)
	}
	return all
}

func (r *reader) alts(l []api.Alt) {
	for _, a := range l {
		body := func() { r.exp(a.Body) }
		switch a.Kind {
		case api.ACon:
			r.around(body, a.Vars...)
		case api.AInt:
			r.around(body)
		case api.AAll:
			r.around(body, a.Name)
		}
	}
}

// without takes names out of a list that is the caller's own.
func without(list []string, names ...string) []string {
	out := map[string]int{}
	for _, name := range names {
		out[name]++
	}
	return slices.DeleteFunc(list, func(one string) bool { return out[one] > 0 })
}

// lastWhere tells the place of the last in a list of which the function that is handed over says yes; -1, if there is none.
func lastWhere(list []string, is func(string) bool) int {
	for i := len(list) - 1; i >= 0; i-- {
		if is(list[i]) {
			return i
		}
	}
	return -1
}
