package lazy

import (
	"slices"

	"midden/api"
	"midden/prim"
)

// What is done next.
const (
	evaluate = iota // the expression, where the names stand
	know            // the thing
	tell            // the thing, which is a value, to what waits last
	rest            // nothing: the thing is the value that was asked for
	fail            // nothing: there was an error
	starve          // nothing: there is no fuel for one step more
)

// What waits for a value.
const (
	forSame   = iota // the thing in work, which is the same then
	forThings        // things with which it is called
	forArms          // a case, where its names stand
	forPrim          // a primitive, of whose arguments it is one
)

// frame is what waits.
type frame struct {
	what  int
	of    *thing
	with  []*thing
	exp   *exp
	names *names
	place int // which argument of a primitive
}

// run is what goes on while things become known. Programs need things within one another as deep as there is fuel for:
// what waits stands in a list, not on Go's own stack.
type run struct {
	m     *Machine
	fuel  int // how many more steps there may be
	next  int
	exp   *exp
	names *names
	of    *thing
	wrong api.Errno
	waits []frame
}

// known makes a thing known, and tells whether it is; if so, it is what the run is at.
func (r *run) known(t *thing) bool {
	r.knows(t)
	for {
		switch r.next {
		case evaluate:
			r.evaluate()
		case know:
			r.know()
		case tell:
			r.tell()
		default:
			return r.next == rest
		}
	}
}

func (r *run) evaluates(x *exp, where *names) { r.next, r.exp, r.names = evaluate, x, where }

func (r *run) knows(t *thing) { r.next, r.of = know, t }

func (r *run) tells(value *thing) { r.next, r.of = tell, value }

// fails lets all fail that is in work: these are the things that wait.
func (r *run) fails(e api.Errno) {
	r.next, r.wrong = fail, e
	for _, f := range r.waits {
		if f.what == forSame {
			*f.of = thing{is: failed, wrong: e}
		}
	}
	r.waits = nil
}

func (r *run) wait(f frame) { r.waits = append(r.waits, f) }

// last takes what waits last. Its place is cleared, so that it holds on to nothing.
func (r *run) last() frame {
	i := len(r.waits) - 1
	f := r.waits[i]
	r.waits[i] = frame{}
	r.waits = r.waits[:i]
	return f
}

// calls makes the thing known that is called; what is done with its value is enter's.
func (r *run) calls(t *thing, with []*thing) {
	r.wait(frame{what: forThings, with: with})
	r.knows(t)
}

func (r *run) know() {
	t := r.of
	switch t.is {
	case same:
		r.tells(t.of)
	case failed:
		r.fails(t.wrong)
	case work:
		r.fails(api.ErrLoop)
	case need:
		was := r.works(t)
		r.evaluates(was.form.body, was.names)
	case call:
		was := r.works(t)
		r.calls(was.of, was.with)
	default:
		r.tells(t)
	}
}

// works puts a thing in work, and tells what it was. It forgets that, lest it hold on to what nobody else has.
func (r *run) works(t *thing) thing {
	was := *t
	*t = thing{is: work}
	r.wait(frame{what: forSame, of: t})
	return was
}

func (r *run) evaluate() {
	if r.fuel == 0 {
		r.next = starve
		return
	}
	r.fuel--
	r.m.steps++
	x, where := r.exp, r.names
	switch x.kind {
	case api.XInt:
		r.tells(numbered(x.n))
	case api.XCon:
		r.tells(&thing{is: constructor, n: x.n, with: where.atoms(x.atoms)})
	case api.XApp:
		if len(x.atoms) == 0 {
			r.knows(where.at(x.of))
		} else {
			r.calls(where.at(x.of), where.atoms(x.atoms))
		}
	case api.XLet:
		r.evaluates(x.kid, where.group(x.binds))
	case api.XCase:
		r.wait(frame{what: forArms, exp: x, names: where})
		r.evaluates(x.kid, where)
	case api.XPrim:
		r.arguments(x, where.atoms(x.atoms), 0)
	}
}

// arguments goes on with a primitive's arguments from one on: to the first that must be known, or to what it tells.
func (r *run) arguments(x *exp, with []*thing, from int) {
	for i := from; i < len(with); i++ {
		if prim.Need(x.prim, i) != anything {
			r.wait(frame{what: forPrim, exp: x, with: with, place: i})
			r.knows(with[i])
			return
		}
	}
	x.tell(r, with)
}

func (r *run) tell() {
	if len(r.waits) == 0 {
		r.next = rest
		return
	}
	f := r.last()
	switch f.what {
	case forSame:
		*f.of = thing{is: same, of: r.of}
	case forThings:
		r.enter(r.of, f.with)
	case forArms:
		r.choose(r.of, f)
	case forPrim:
		r.argument(r.of, f)
	}
}

// enter calls a value.
func (r *run) enter(t *thing, with []*thing) {
	if t.is == part {
		t, with = t.of, slices.Concat(t.with, with)
	}
	if t.is != function {
		r.fails(api.ErrApply)
		return
	}
	args := t.form.args
	if len(with) < args {
		r.tells(&thing{is: part, of: t, with: with})
		return
	}
	if len(with) > args {
		r.wait(frame{what: forThings, with: with[args:]})
	}
	r.evaluates(t.form.body, t.names.within(with[:args]))
}

// choose goes on with the alternative that fits. A number has no things, so that its alternative binds nothing.
func (r *run) choose(t *thing, f frame) {
	if body := f.exp.arms[value{t.is, t.n}]; body != nil {
		r.evaluates(body, f.names.within(t.with))
	} else if f.exp.other != nil {
		r.evaluates(f.exp.other, f.names.within([]*thing{t}))
	} else {
		r.fails(api.ErrMatch)
	}
}

// argument goes on with a primitive of which an argument is known now.
func (r *run) argument(t *thing, f frame) {
	if e := unlike(t, prim.Need(f.exp.prim, f.place)); e != api.OK {
		r.fails(e)
		return
	}
	f.with[f.place] = t
	r.arguments(f.exp, f.with, f.place+1)
}
