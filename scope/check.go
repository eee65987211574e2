package scope

import (
	"slices"

	"midden/api"
	"midden/prim"
)

// checker goes over a program in the chapter's order. Each of its steps tells whether all was right: behind the first
// fault none goes on, so what is in scope need not be set back there.
type checker struct {
	fields map[string]int // how many each constructor has; by name, as a program may have many of both
	bound  map[string]int // how many around have bound each name: an inner one may have an outer one's
	at     int
	wrong  api.Errno
}

// fail keeps the fault, for the step that can't go on to tell.
func (c *checker) fail(at int, e api.Errno) bool {
	c.at, c.wrong = at, e
	return false
}

func (c *checker) enter(names []string) {
	for _, name := range names {
		c.bound[name]++
	}
}

func (c *checker) leave(names []string) {
	for _, name := range names {
		c.bound[name]--
	}
}

// has tells whether a name is in scope. The empty one never is: it is refused wherever names are bound.
func (c *checker) has(name string) bool { return c.bound[name] > 0 }

// firstDouble tells the place of the first in a list of which one ahead has the key; -1, if all keys are unlike.
func firstDouble[T any, K comparable](list []T, key func(T) K) int {
	places := map[K]int{}
	for i, one := range list {
		if _, ahead := places[key(one)]; ahead {
			return i
		}
		places[key(one)] = i
	}
	return -1
}

func (c *checker) program(p api.Program) bool {
	if !c.datas(p.Datas) || !c.group(p.Binds) {
		return false
	}
	if !c.has("main") {
		return c.fail(0, api.ErrMain)
	}
	return true
}

func (c *checker) datas(l []api.Data) bool {
	double := firstDouble(l, func(d api.Data) string { return d.Name })
	for i, d := range l {
		if i == double {
			return c.fail(d.At, api.ErrTwice)
		}
		if d.Arity < 0 || d.Arity > api.MaxArgs {
			return c.fail(d.At, api.ErrArity)
		}
		c.fields[d.Name] = d.Arity
	}
	return true
}

// group goes over binds that know one another: all of their names first. These stay in scope for what stands behind.
func (c *checker) group(l []api.Bind) bool {
	double := firstDouble(l, func(b api.Bind) string { return b.Name })
	for i, b := range l {
		if b.Name == "" {
			return c.fail(b.At, api.ErrName)
		}
		if i == double {
			return c.fail(b.At, api.ErrTwice)
		}
	}
	c.enter(namesOf(l))
	for _, b := range l {
		if !c.form(b) {
			return false
		}
	}
	return true
}

func namesOf(l []api.Bind) []string {
	var all []string
	for _, b := range l {
		all = append(all, b.Name)
	}
	return all
}

func (c *checker) form(b api.Bind) bool {
	if len(b.Form.Args) > api.MaxArgs {
		return c.fail(b.At, api.ErrArity)
	}
	return c.unlike(b.Form.Args, b.At) && c.inside(b.Form.Args, b.Form.Body)
}

// unlike goes over names that are bound at one place: no empty one, however far behind, and no two that are the same.
func (c *checker) unlike(names []string, at int) bool {
	if slices.Contains(names, "") {
		return c.fail(at, api.ErrName)
	}
	if firstDouble(names, func(name string) string { return name }) >= 0 {
		return c.fail(at, api.ErrTwice)
	}
	return true
}

// inside goes over an expression in which some more names are in scope.
func (c *checker) inside(names []string, body api.Exp) bool {
	c.enter(names)
	if !c.exp(body) {
		return false
	}
	c.leave(names)
	return true
}

func (c *checker) exp(x api.Exp) bool {
	switch x.Kind {
	case api.XApp:
		return c.app(x)
	case api.XCon:
		return c.con(x)
	case api.XPrim:
		return c.prim(x)
	case api.XInt:
		return true
	case api.XLet:
		return c.let(x)
	case api.XCase:
		return c.choice(x)
	}
	return c.fail(x.At, api.ErrArg)
}

func (c *checker) app(x api.Exp) bool {
	if !c.has(x.Name) {
		return c.fail(x.At, api.ErrName)
	}
	if len(x.Atoms) > api.MaxArgs {
		return c.fail(x.At, api.ErrArity)
	}
	return c.atoms(x)
}

func (c *checker) con(x api.Exp) bool {
	return c.fits(x.Name, len(x.Atoms), x.At) && c.atoms(x)
}

// fits tells whether there is a constructor of that name, with so many fields.
func (c *checker) fits(con string, many, at int) bool {
	fields, known := c.fields[con]
	if !known {
		return c.fail(at, api.ErrCon)
	}
	if many != fields {
		return c.fail(at, api.ErrArity)
	}
	return true
}

func (c *checker) prim(x api.Exp) bool {
	n := prim.Find(x.Name)
	if n == 0 {
		return c.fail(x.At, api.ErrPrim)
	}
	if len(x.Atoms) != prim.Arity(n) {
		return c.fail(x.At, api.ErrArity)
	}
	return c.atoms(x)
}

func (c *checker) atoms(x api.Exp) bool {
	for _, a := range x.Atoms {
		if a.Name != "" && !c.has(a.Name) {
			return c.fail(x.At, api.ErrName)
		}
	}
	return true
}

func (c *checker) let(x api.Exp) bool {
	if len(x.Binds) == 0 || len(x.Kids) == 0 {
		return c.fail(x.At, api.ErrArg)
	}
	if !c.group(x.Binds) || !c.exp(x.Kids[0]) {
		return false
	}
	c.leave(namesOf(x.Binds))
	return true
}

func (c *checker) choice(x api.Exp) bool {
	if len(x.Kids) == 0 || len(x.Alts) == 0 {
		return c.fail(x.At, api.ErrArg)
	}
	return c.exp(x.Kids[0]) && c.alts(x.Alts)
}

func (c *checker) alts(l []api.Alt) bool {
	double := firstDouble(l, patternOf)
	for i, a := range l {
		// The one just ahead is enough: with an AAll further ahead, the one behind that was refused.
		if i > 0 && l[i-1].Kind == api.AAll {
			return c.fail(a.At, api.ErrLast)
		}
		if !c.alt(a, i == double) {
			return false
		}
	}
	return true
}

// pattern is what two alternatives of a case may not have in common.
type pattern struct {
	kind int
	name string
	n    int64
}

// patternOf tells of an alternative what its kind names. All that take all have one: they are refused ahead of that.
func patternOf(a api.Alt) pattern {
	switch a.Kind {
	case api.ACon:
		return pattern{kind: a.Kind, name: a.Name}
	case api.AInt:
		return pattern{kind: a.Kind, n: a.N}
	}
	return pattern{kind: a.Kind}
}

// alt goes over an alternative; again is told of one whose pattern one ahead has.
func (c *checker) alt(a api.Alt, again bool) bool {
	switch a.Kind {
	case api.ACon:
		return c.fits(a.Name, len(a.Vars), a.At) && c.unlike(a.Vars, a.At) && c.onlyOne(a, again) && c.inside(a.Vars, a.Body)
	case api.AInt:
		return c.onlyOne(a, again) && c.exp(a.Body)
	case api.AAll:
		names := []string{a.Name}
		return c.unlike(names, a.At) && c.inside(names, a.Body)
	}
	return c.fail(a.At, api.ErrArg)
}

func (c *checker) onlyOne(a api.Alt, again bool) bool {
	if again {
		return c.fail(a.At, api.ErrTwice)
	}
	return true
}
