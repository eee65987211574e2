package code_test

import (
	"fmt"
	"reflect"
	"slices"
	"strings"
	"testing"

	"midden/api"
	"midden/code"
)

// fault is what Check answers.
type fault struct {
	at int
	e  api.Errno
}

// The model says by the chapter's words what Check answers: it gathers all faults of a code, each with its rank in the
// chapter's order, and takes the one that comes first. It is written in the chapter's numbers, not in api's names.

type ranked struct {
	part, at, rank int
	e              api.Errno
}

type gathering struct {
	c   api.Code
	all []ranked
}

func (g *gathering) wrong(is bool, part, at, rank int, e api.Errno) {
	if is {
		g.all = append(g.all, ranked{part, at, rank, e})
	}
}

// primArgs is how many arguments the primitives have, by number.
var primArgs = []int{-1, 2, 2, 2, 2, 2, 2, 2, 1, 2, 1, 1, 2, 2, 2, 3, 1}

func outside(n, least, most int) bool { return n < least || n > most }

func model(c api.Code) fault {
	g := gathering{c: c}
	for i, x := range c.Cons {
		g.wrong(outside(x.Arity, 0, 8), 1, i, 0, 33)
	}
	for i, x := range c.Infos {
		g.info(i, x)
	}
	for i, x := range c.Globals {
		is := !outside(x.Info, 0, len(c.Infos)-1)
		g.wrong(!is, 3, i, 0, 4)
		g.wrong(is && c.Infos[max(0, min(x.Info, len(c.Infos)-1))].Free != 0, 3, i, 1, 6)
	}
	for i, x := range c.Insns {
		g.insn(i, x)
	}
	if len(g.all) == 0 {
		return fault{}
	}
	first := slices.MinFunc(g.all, func(a, b ranked) int {
		return slices.Compare([]int{a.part, a.at, a.rank}, []int{b.part, b.at, b.rank})
	})
	return fault{first.at, first.e}
}

func (g *gathering) info(i int, x api.Info) {
	g.wrong(x.Kind != 3 && x.Kind != 6, 2, i, 0, 6)
	g.wrong(x.Kind == 3 && outside(x.Arity, 1, 8), 2, i, 1, 33)
	g.wrong(x.Kind == 6 && x.Arity != 0, 2, i, 1, 33)
	g.wrong(outside(x.Free, 0, 255), 2, i, 1, 33)
	if outside(x.To, 0, len(g.c.Insns)-1) {
		g.wrong(true, 2, i, 2, 4)
		return
	}
	g.wrong(int64(g.c.Insns[x.To].B) != int64(x.Arity)+int64(x.Free), 2, i, 3, 7)
}

// The ranks of an instruction's faults.
const (
	rankKind = iota
	rankB
	rankArity
	rankCon
	rankPrim
	rankRange
	rankArms
	rankLocals
)

func (g *gathering) insn(i int, x api.Insn) {
	wrong := func(is bool, rank int, e api.Errno) { g.wrong(is, 4, i, rank, e) }
	place := func(p int) { wrong(g.noPlace(p, x.B), rankRange, 4) }
	wrong(outside(x.Op, 1, 6), rankKind, 6)
	wrong(outside(x.B, 0, 1000) || x.Op == 5 && x.B == 0, rankB, 7)
	switch x.Op {
	case 1:
		wrong(len(x.Makes) == 0, rankArity, 33)
		for _, m := range x.Makes {
			g.made(i, x.B+len(x.Makes), m)
		}
		g.goes(i, i+1, x.B+len(x.Makes))
	case 2:
		wrong(len(x.List) > 8, rankArity, 33)
		place(x.A)
		for _, p := range x.List {
			place(p)
		}
	case 3:
		place(x.A)
	case 4:
		for _, p := range slices.Concat(x.List, x.Keep) {
			place(p)
		}
		g.goes(i, i+1, len(x.List))
		g.goes(i, x.A, len(x.Keep)+1)
		wrong(!outside(x.A, 0, len(g.c.Insns)-1) && g.c.Insns[max(0, min(x.A, len(g.c.Insns)-1))].Op != 5, rankArms, 6)
	case 5:
		wrong(len(x.Arms) == 0, rankArity, 33)
		for _, a := range x.Arms {
			g.arm(i, x.B, a)
		}
	case 6:
		if outside(x.A, 1, 16) {
			wrong(true, rankPrim, 34)
		} else {
			wrong(len(x.List) != primArgs[x.A], rankArity, 33)
		}
		for _, p := range x.List {
			place(p)
		}
	}
}

func (g *gathering) noPlace(p, locals int) bool {
	return outside(p, -len(g.c.Globals), locals-1)
}

// goes says what is wrong with the way from an instruction to another one.
func (g *gathering) goes(i, to, locals int) {
	if outside(to, 0, len(g.c.Insns)-1) {
		g.wrong(true, 4, i, rankRange, 4)
	} else {
		g.wrong(g.c.Insns[to].B != locals, 4, i, rankLocals, 7)
	}
}

func (g *gathering) made(i, locals int, m api.Make) {
	fields, known := -1, false
	switch m.Kind {
	case 1, 7:
		if known = m.Info >= 0 && m.Info < len(g.c.Cons); known {
			fields = g.c.Cons[m.Info].Arity
		}
		if m.Kind == 7 {
			known = known && m.N >= 0 && m.N <= int64(fields)-1
			fields = 1
		}
	case 3, 6:
		if known = m.Info >= 0 && m.Info < len(g.c.Infos) && g.c.Infos[m.Info].Kind == m.Kind; known {
			fields = g.c.Infos[m.Info].Free
		}
	case 2:
		return
	default:
		g.wrong(true, 4, i, rankKind, 6)
		return
	}
	g.wrong(!known, 4, i, rankCon, 32)
	g.wrong(fields >= 0 && fields != len(m.From), 4, i, rankArity, 33)
	for _, p := range m.From {
		g.wrong(g.noPlace(p, locals), 4, i, rankRange, 4)
	}
}

func (g *gathering) arm(i, locals int, a api.Arm) {
	switch a.Kind {
	case 1:
		if a.Con < 0 || a.Con >= len(g.c.Cons) {
			g.wrong(true, 4, i, rankCon, 32)
		} else {
			locals += g.c.Cons[a.Con].Arity
		}
	case 2, 3:
	default:
		g.wrong(true, 4, i, rankKind, 6)
	}
	g.goes(i, a.To, locals)
}

// want holds Check to a number and an error, twice, and what was handed in to what it was, with its spare room.
func want(t *testing.T, c api.Code, w fault) {
	t.Helper()
	was := whole(c)
	for range 2 {
		if at, e := code.Check(c); at != w.at || e != w.e {
			t.Errorf("%d, %d; want %d, %d: %s", at, int(e), w.at, int(w.e), short(c))
			return
		}
	}
	if whole(c) != was {
		t.Errorf("it was changed: %s", short(was))
	}
}

// agree holds Check and the model to a number and an error.
func agree(t *testing.T, c api.Code, w fault) {
	t.Helper()
	if m := model(c); m != w {
		t.Errorf("the model says %v, not %v: %s", m, w, short(c))
	}
	want(t, c, w)
}

func short(x any) string {
	s := strings.ToValidUTF8(fmt.Sprintf("%+v", x), "?")
	if len(s) > 1200 {
		s = s[:1100] + " .. " + s[len(s)-80:]
	}
	return s
}

// whole tells all that something is, with the spare room of its lists.
func whole(x any) string {
	var text strings.Builder
	tell(&text, reflect.ValueOf(x))
	return text.String()
}

func tell(text *strings.Builder, v reflect.Value) {
	switch v.Kind() {
	case reflect.Struct:
		for i := range v.NumField() {
			tell(text, v.Field(i))
		}
		text.WriteByte('.')
	case reflect.Slice:
		fmt.Fprintf(text, "[%d %d %v:", v.Len(), v.Cap(), v.IsNil())
		if v.Cap() > 0 {
			v = v.Slice(0, v.Cap())
		}
		for i := range v.Len() {
			tell(text, v.Index(i))
		}
		text.WriteByte(']')
	default:
		fmt.Fprintf(text, "%#v ", v.Interface())
	}
}

// copied is the code again, in memory of its own.
func copied(c api.Code) api.Code {
	c = api.Code{Cons: slices.Clone(c.Cons), Globals: slices.Clone(c.Globals), Infos: slices.Clone(c.Infos), Insns: slices.Clone(c.Insns)}
	for i := range c.Insns {
		x := &c.Insns[i]
		x.List, x.Keep, x.Makes, x.Arms = slices.Clone(x.List), slices.Clone(x.Keep), slices.Clone(x.Makes), slices.Clone(x.Arms)
		for j := range x.Makes {
			x.Makes[j].From = slices.Clone(x.Makes[j].From)
		}
	}
	return c
}

// follow goes each way from each info on, with locals that are counted on the way, and says what it meets that P12.4
// rules out; nothing, if there is nothing.
func follow(c api.Code) string {
	seen := map[[2]int]bool{}
	type spot struct{ at, locals int }
	var due []spot
	for _, f := range c.Infos {
		due = append(due, spot{f.To, f.Arity + f.Free})
	}
	for len(due) > 0 {
		s := due[len(due)-1]
		due = due[:len(due)-1]
		if seen[[2]int{s.at, s.locals}] {
			continue
		}
		seen[[2]int{s.at, s.locals}] = true
		if s.at < 0 || s.at >= len(c.Insns) {
			return fmt.Sprintf("no instruction: %d", s.at)
		}
		x := c.Insns[s.at]
		if x.B != s.locals {
			return fmt.Sprintf("at %d there are %d locals, and it says %d", s.at, s.locals, x.B)
		}
		for _, p := range placesOf(x) {
			if p >= s.locals+len(laid(x)) || p < -len(c.Globals) {
				return fmt.Sprintf("at %d no place: %d", s.at, p)
			}
		}
		switch x.Op {
		case api.ILet:
			due = append(due, spot{s.at + 1, s.locals + len(x.Makes)})
			for _, m := range x.Makes {
				if m.Kind != api.KFun && m.Kind != api.KThunk {
					continue
				}
				f := c.Infos[m.Info]
				due = append(due, spot{f.To, f.Arity + len(m.From)})
			}
		case api.ICase:
			due = append(due, spot{s.at + 1, len(x.List)}, spot{x.A, len(x.Keep) + 1})
			if c.Insns[x.A].Op != api.IArms {
				return fmt.Sprintf("at %d no arms: %d", s.at, x.A)
			}
		case api.IArms:
			for _, a := range x.Arms {
				more := 0
				if a.Kind == api.ACon {
					more = c.Cons[a.Con].Arity
				}
				due = append(due, spot{a.To, s.locals + more})
			}
		}
	}
	return ""
}

func laid(x api.Insn) []api.Make {
	if x.Op == api.ILet {
		return x.Makes
	}
	return nil
}

func placesOf(x api.Insn) []int {
	switch x.Op {
	case api.ICall:
		return append(slices.Clone(x.List), x.A)
	case api.IRet:
		return []int{x.A}
	case api.ICase:
		return slices.Concat(x.List, x.Keep)
	case api.IPrim:
		return x.List
	}
	var l []int
	for _, m := range laid(x) {
		if m.Kind != api.KInt {
			l = append(l, m.From...)
		}
	}
	return l
}
