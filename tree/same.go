package tree

import "midden/api"

// sameList tells whether two lists are as long, and the same one by one.
func sameList[T any](a, b []T, same func(a, b T) bool) bool {
	if len(a) != len(b) {
		return false
	}
	for i := range a {
		if !same(a[i], b[i]) {
			return false
		}
	}
	return true
}

func sameText(a, b string) bool { return a == b }

func sameData(a, b api.Data) bool { return a.Name == b.Name && a.Arity == b.Arity }

// sameAtom looks at the numbers of atoms without a name alone.
func sameAtom(a, b api.Atom) bool { return a.Name == b.Name && (a.Name != "" || a.N == b.N) }

func sameBind(a, b api.Bind) bool {
	return a.Name == b.Name && sameList(a.Form.Args, b.Form.Args, sameText) && sameExp(a.Form.Body, b.Form.Body)
}

func sameAlt(a, b api.Alt) bool {
	if a.Kind != b.Kind {
		return false
	}
	switch a.Kind {
	case api.ACon:
		return a.Name == b.Name && sameList(a.Vars, b.Vars, sameText) && sameExp(a.Body, b.Body)
	case api.AInt:
		return a.N == b.N && sameExp(a.Body, b.Body)
	case api.AAll:
		return a.Name == b.Name && sameExp(a.Body, b.Body)
	}
	return true
}

func sameExp(a, b api.Exp) bool {
	if a.Kind != b.Kind {
		return false
	}
	switch a.Kind {
	case api.XApp, api.XCon, api.XPrim:
		return a.Name == b.Name && sameList(a.Atoms, b.Atoms, sameAtom)
	case api.XInt:
		return a.N == b.N
	case api.XLet:
		return sameList(a.Binds, b.Binds, sameBind) && sameList(first(a.Kids), first(b.Kids), sameExp)
	case api.XCase:
		return sameList(first(a.Kids), first(b.Kids), sameExp) && sameList(a.Alts, b.Alts, sameAlt)
	}
	return true
}

// first tells the kid that counts, if there is one.
func first(kids []api.Exp) []api.Exp { return kids[:min(1, len(kids))] }

// within tells the expressions that stand in one next. What a kind does not name is none of them.
func within(x api.Exp) []api.Exp {
	var all []api.Exp
	switch x.Kind {
	case api.XLet:
		for _, b := range x.Binds {
			all = append(all, b.Form.Body)
		}
		all = append(all, first(x.Kids)...)
	case api.XCase:
		all = append(all, first(x.Kids)...)
		for _, a := range x.Alts {
			if a.Kind == api.ACon || a.Kind == api.AInt || a.Kind == api.AAll {
				all = append(all, a.Body)
			}
		}
	}
	return all
}

func sizeOf(x api.Exp) int {
	n := 1
	for _, y := range within(x) {
		n += sizeOf(y)
	}
	return n
}

// Same tells whether two programs are the same, but for places, and for what kinds do not name.
func Same(a, b api.Program) bool {
	return sameList(a.Datas, b.Datas, sameData) && sameList(a.Binds, b.Binds, sameBind)
}

// Size tells how many expressions there are in all forms of a program.
func Size(p api.Program) int {
	n := 0
	for _, b := range p.Binds {
		n += sizeOf(b.Form.Body)
	}
	return n
}

// Deep tells how deep an expression is.
func Deep(x api.Exp) int {
	n := 0
	for _, y := range within(x) {
		n = max(n, Deep(y))
	}
	return n + 1
}
