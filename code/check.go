package code

import (
	"midden/api"
	"midden/prim"
)

// below tells whether n is one of the numbers of a list that is so long.
func below(n, many int) bool { return n >= 0 && n < many }

// all tells whether each of a list is as it is asked to be.
func all[T any](l []T, ask func(T) bool) bool {
	for _, one := range l {
		if !ask(one) {
			return false
		}
	}
	return true
}

func wrongCon(x api.Con) api.Errno {
	if x.Arity < 0 || x.Arity > api.MaxArgs {
		return api.ErrArity
	}
	return api.OK
}

func wrongInfo(c api.Code, x api.Info) api.Errno {
	least, most := 1, api.MaxArgs
	switch x.Kind {
	case api.KFun:
	case api.KThunk:
		least, most = 0, 0
	default:
		return api.ErrKind
	}
	switch {
	case x.Arity < least || x.Arity > most || x.Free < 0 || x.Free > api.MaxFree:
		return api.ErrArity
	case !below(x.To, len(c.Insns)):
		return api.ErrRange
	case c.Insns[x.To].B != x.Arity+x.Free:
		return api.ErrSize
	}
	return api.OK
}

func wrongGlobal(c api.Code, x api.Global) api.Errno {
	switch {
	case !below(x.Info, len(c.Infos)):
		return api.ErrRange
	case c.Infos[x.Info].Free != 0:
		return api.ErrKind
	}
	return api.OK
}

func wrongInsn(c api.Code, at int) api.Errno {
	k := checker{code: c, at: at, insn: c.Insns[at]}
	return k.wrong()
}

// checker asks one instruction of a code whether it is right.
type checker struct {
	code api.Code
	at   int
	insn api.Insn
}

// way is an instruction with which another goes on, and how many locals there are then.
type way struct {
	to, locals int
}

// wrong asks in the chapter's order: what is asked later may lean on what was right ahead of it.
func (k *checker) wrong() api.Errno {
	switch {
	case !k.kinds():
		return api.ErrKind
	case !k.locals():
		return api.ErrSize
	case !k.counts():
		return api.ErrArity
	case !k.names():
		return api.ErrCon
	case !k.primitive():
		return api.ErrPrim
	case !k.places() || !all(k.ways(), k.there):
		return api.ErrRange
	case !k.arms():
		return api.ErrKind
	case !all(k.ways(), k.fits):
		return api.ErrSize
	}
	return api.OK
}

func (k *checker) kinds() bool {
	switch k.insn.Op {
	case api.ILet:
		return all(k.insn.Makes, makeKind)
	case api.IArms:
		return all(k.insn.Arms, armKind)
	case api.ICall, api.IRet, api.ICase, api.IPrim:
		return true
	}
	return false
}

func makeKind(m api.Make) bool {
	switch m.Kind {
	case api.KCon, api.KInt, api.KFun, api.KThunk, api.KSel:
		return true
	}
	return false
}

func armKind(a api.Arm) bool {
	return a.Kind == api.ACon || a.Kind == api.AInt || a.Kind == api.AAll
}

func (k *checker) locals() bool {
	least := 0
	if k.insn.Op == api.IArms {
		least = 1
	}
	return k.insn.B >= least && k.insn.B <= api.MaxLocals
}

func (k *checker) counts() bool {
	switch k.insn.Op {
	case api.ILet:
		return len(k.insn.Makes) > 0 && all(k.insn.Makes, k.enough)
	case api.ICall:
		return len(k.insn.List) <= api.MaxArgs
	case api.IArms:
		return len(k.insn.Arms) > 0
	case api.IPrim:
		return !k.primitive() || len(k.insn.List) == prim.Arity(k.insn.A)
	}
	return true
}

// enough tells whether From has as many places as it must. A constructor, an info that is none asks for no number of
// them: that is a fault of its own, behind this one.
func (k *checker) enough(m api.Make) bool {
	switch m.Kind {
	case api.KCon:
		return !k.named(m) || len(m.From) == k.code.Cons[m.Info].Arity
	case api.KFun, api.KThunk:
		return !k.named(m) || len(m.From) == k.code.Infos[m.Info].Free
	case api.KSel:
		return len(m.From) == 1
	}
	return true
}

// names tells whether all constructors, fields and infos that the instruction names are some.
func (k *checker) names() bool {
	switch k.insn.Op {
	case api.ILet:
		return all(k.insn.Makes, k.named)
	case api.IArms:
		return all(k.insn.Arms, func(a api.Arm) bool { return a.Kind != api.ACon || k.con(a.Con) })
	}
	return true
}

func (k *checker) named(m api.Make) bool {
	switch m.Kind {
	case api.KCon:
		return k.con(m.Info)
	case api.KFun, api.KThunk:
		return below(m.Info, len(k.code.Infos)) && k.code.Infos[m.Info].Kind == m.Kind
	case api.KSel:
		return k.con(m.Info) && m.N >= 0 && m.N < int64(k.code.Cons[m.Info].Arity)
	}
	return true
}

func (k *checker) con(n int) bool { return below(n, len(k.code.Cons)) }

func (k *checker) primitive() bool {
	return k.insn.Op != api.IPrim || prim.Name(k.insn.A) != ""
}

func (k *checker) places() bool {
	x := k.insn
	switch x.Op {
	case api.ILet:
		group := func(place int) bool { return k.stands(place, x.B+len(x.Makes)) }
		return all(x.Makes, func(m api.Make) bool { return m.Kind == api.KInt || all(m.From, group) })
	case api.ICall:
		return k.place(x.A) && all(x.List, k.place)
	case api.IRet:
		return k.place(x.A)
	case api.ICase:
		return all(x.List, k.place) && all(x.Keep, k.place)
	case api.IPrim:
		return all(x.List, k.place)
	}
	return true
}

func (k *checker) place(place int) bool { return k.stands(place, k.insn.B) }

// stands tells whether a place is one of so many locals, or a global.
func (k *checker) stands(place, locals int) bool {
	if place < 0 {
		return -1-place < len(k.code.Globals)
	}
	return place < locals
}

func (k *checker) ways() []way {
	x := k.insn
	switch x.Op {
	case api.ILet:
		return []way{{k.at + 1, x.B + len(x.Makes)}}
	case api.ICase:
		return []way{{k.at + 1, len(x.List)}, {x.A, len(x.Keep) + 1}}
	case api.IArms:
		var l []way
		for _, a := range x.Arms {
			l = append(l, way{a.To, x.B + k.fields(a)})
		}
		return l
	}
	return nil
}

// fields tells how many locals more an arm has.
func (k *checker) fields(a api.Arm) int {
	if a.Kind == api.ACon {
		return k.code.Cons[a.Con].Arity
	}
	return 0
}

func (k *checker) there(w way) bool { return below(w.to, len(k.code.Insns)) }

func (k *checker) fits(w way) bool { return k.code.Insns[w.to].B == w.locals }

// arms tells whether a case goes on with arms, when its value is known.
func (k *checker) arms() bool {
	return k.insn.Op != api.ICase || k.code.Insns[k.insn.A].Op == api.IArms
}
