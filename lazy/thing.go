package lazy

import "midden/api"

// What a thing is. Those up to array are values: they stay what they are.
const (
	number = iota
	constructor
	function
	part
	variable
	array
	need
	call
	work
	failed
	same
)

// thing is what a name stands for. Its address is its own number, so that whoever has it sees what becomes of it.
type thing struct {
	is    int
	n     int64            // a number; a constructor's number; how many items an array has
	form  *form            // a function's, a need's
	names *names           // where the names of that form stand
	of    *thing           // a part's function; whom a call calls; what a variable holds, an array was filled with; whom it is the same as
	with  []*thing         // a constructor's things; those of a part or a call: never changed
	items map[int64]*thing // those that were put into an array since: a great one that is hardly used takes little
	wrong api.Errno        // why it failed
}

func numbered(n int64) *thing { return &thing{is: number, n: n} }

func numbers(l []int64) []*thing {
	var all []*thing
	for _, n := range l {
		all = append(all, numbered(n))
	}
	return all
}

// holds tells whether an array has an item of that number.
func (t *thing) holds(i int64) bool { return i >= 0 && i < t.n }

func (t *thing) item(i int64) *thing {
	if put, changed := t.items[i]; changed {
		return put
	}
	return t.of
}

func (t *thing) put(i int64, item *thing) {
	if t.items == nil {
		t.items = map[int64]*thing{}
	}
	t.items[i] = item
}

// names tells where names stand: which things the names of one scope are, and of all those around it. A program may
// have many scopes within one another, so that each one knows, beside the next one around it, one that is further off:
// with these a level is found in a number of hops that grows as the logarithm of how far it is.
type names struct {
	things []*thing
	level  int
	up     *names
	far    *names
}

// outmost makes the scope around all others.
func outmost(things []*thing) *names {
	s := &names{things: things}
	s.up, s.far = s, s
	return s
}

// within makes a scope inside another. One without a name is none: placer counts levels likewise.
func (s *names) within(things []*thing) *names {
	if len(things) == 0 {
		return s
	}
	inner := &names{things: things, level: s.level + 1, up: s, far: s}
	if s.level-s.far.level == s.far.level-s.far.far.level {
		inner.far = s.far.far
	}
	return inner
}

func (s *names) at(p place) *thing {
	for s.level > p.level {
		if s.far.level >= p.level {
			s = s.far
		} else {
			s = s.up
		}
	}
	return s.things[p.index]
}

func (s *names) atoms(l []atom) []*thing {
	all := make([]*thing, len(l))
	for i, a := range l {
		if a.named {
			all[i] = s.at(a.at)
		} else {
			all[i] = numbered(a.n)
		}
	}
	return all
}

// group makes the scope of a let's binds. Their things are there ahead of what they are, as each may be in all others.
func (s *names) group(l []bind) *names {
	things := make([]*thing, len(l))
	for i := range things {
		things[i] = &thing{}
	}
	inner := s.within(things)
	for i, b := range l {
		*things[i] = inner.bound(b)
	}
	return inner
}

func (s *names) bound(b bind) thing {
	switch b.class {
	case api.KFun:
		return thing{is: function, form: b.form, names: s}
	case api.KCon:
		return thing{is: constructor, n: b.form.body.n, with: s.atoms(b.form.body.atoms)}
	case api.KInt:
		return thing{is: number, n: b.form.body.n}
	}
	return thing{is: need, form: b.form, names: s}
}
