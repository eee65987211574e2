package scope_test

import (
	"fmt"
	"reflect"
	"slices"
	"strings"
	"testing"

	"midden/api"
	"midden/scope"
	"midden/tree"
)

// How many arguments each primitive has, as chapter 8 lists them.
var primArgs = map[string]int{
	"#add": 2, "#sub": 2, "#mul": 2, "#div": 2, "#rem": 2, "#eq": 2, "#lt": 2, "#emit": 1, "#seq": 2,
	"#ref": 1, "#get": 1, "#set": 2, "#arr": 2, "#at": 2, "#put": 3, "#len": 1,
}

type fault struct {
	at int
	e  api.Errno
}

// The model tells all faults of a program, in the chapter's order, and goes on behind each as far as there is anything
// to go on with. Names in scope are a list that is never changed: each inner scope has one of its own.

func when(wrong bool, at int, e api.Errno) []fault {
	if wrong {
		return []fault{{at, e}}
	}
	return nil
}

func some[T any](l []T, is func(T) bool) bool { return slices.ContainsFunc(l, is) }

func faultsOf(p api.Program) []fault {
	var all []fault
	for i, d := range p.Datas {
		twice := some(p.Datas[:i], func(o api.Data) bool { return o.Name == d.Name })
		all = slices.Concat(all, when(twice, d.At, api.ErrTwice), when(d.Arity < 0 || d.Arity > 8, d.At, api.ErrArity))
	}
	named := some(p.Binds, func(b api.Bind) bool { return b.Name == "main" })
	return slices.Concat(all, nameFaults(p.Binds), formFaults(p.Datas, p.Binds, bindNames(p.Binds)), when(!named, 0, api.ErrMain))
}

func bindNames(l []api.Bind) []string {
	var all []string
	for _, b := range l {
		all = append(all, b.Name)
	}
	return all
}

func nameFaults(l []api.Bind) []fault {
	var all []fault
	for i, b := range l {
		all = slices.Concat(all, when(b.Name == "", b.At, api.ErrName), when(slices.Contains(bindNames(l[:i]), b.Name), b.At, api.ErrTwice))
	}
	return all
}

func twoSame(names []string) bool {
	for i := range names {
		for j := range i {
			if names[i] == names[j] {
				return true
			}
		}
	}
	return false
}

func formFaults(datas []api.Data, l []api.Bind, names []string) []fault {
	var all []fault
	for _, b := range l {
		args := b.Form.Args
		all = slices.Concat(all,
			when(len(args) > 8, b.At, api.ErrArity),
			when(slices.Contains(args, ""), b.At, api.ErrName),
			when(twoSame(args), b.At, api.ErrTwice),
			expFaults(datas, b.Form.Body, slices.Concat(names, args)))
	}
	return all
}

func atomFaults(x api.Exp, names []string) []fault {
	return when(some(x.Atoms, func(a api.Atom) bool { return a.Name != "" && !slices.Contains(names, a.Name) }), x.At, api.ErrName)
}

func expFaults(datas []api.Data, x api.Exp, names []string) []fault {
	switch x.Kind {
	case api.XApp:
		return slices.Concat(
			when(x.Name == "" || !slices.Contains(names, x.Name), x.At, api.ErrName),
			when(len(x.Atoms) > 8, x.At, api.ErrArity),
			atomFaults(x, names))
	case api.XCon:
		return slices.Concat(conFaults(datas, x.Name, len(x.Atoms), x.At), atomFaults(x, names))
	case api.XPrim:
		many, ok := primArgs[x.Name]
		return slices.Concat(when(!ok, x.At, api.ErrPrim), when(len(x.Atoms) != many, x.At, api.ErrArity), atomFaults(x, names))
	case api.XInt:
		return nil
	case api.XLet:
		if len(x.Binds) == 0 || len(x.Kids) == 0 {
			return when(true, x.At, api.ErrArg)
		}
		inner := slices.Concat(names, bindNames(x.Binds))
		return slices.Concat(nameFaults(x.Binds), formFaults(datas, x.Binds, inner), expFaults(datas, x.Kids[0], inner))
	case api.XCase:
		if len(x.Kids) == 0 || len(x.Alts) == 0 {
			return when(true, x.At, api.ErrArg)
		}
		all := expFaults(datas, x.Kids[0], names)
		for i, a := range x.Alts {
			all = slices.Concat(all, altFaults(datas, x.Alts[:i], a, names))
		}
		return all
	}
	return when(true, x.At, api.ErrArg)
}

func conFaults(datas []api.Data, name string, many, at int) []fault {
	for _, d := range datas {
		if d.Name == name {
			return when(d.Arity != many, at, api.ErrArity)
		}
	}
	return when(true, at, api.ErrCon)
}

func altFaults(datas []api.Data, ahead []api.Alt, a api.Alt, names []string) []fault {
	last := when(some(ahead, func(o api.Alt) bool { return o.Kind == api.AAll }), a.At, api.ErrLast)
	switch a.Kind {
	case api.ACon:
		twice := some(ahead, func(o api.Alt) bool { return o.Kind == api.ACon && o.Name == a.Name })
		return slices.Concat(last,
			conFaults(datas, a.Name, len(a.Vars), a.At),
			when(slices.Contains(a.Vars, ""), a.At, api.ErrName),
			when(twice || twoSame(a.Vars), a.At, api.ErrTwice),
			expFaults(datas, a.Body, slices.Concat(names, a.Vars)))
	case api.AInt:
		twice := some(ahead, func(o api.Alt) bool { return o.Kind == api.AInt && o.N == a.N })
		return slices.Concat(last, when(twice, a.At, api.ErrTwice), expFaults(datas, a.Body, names))
	case api.AAll:
		return slices.Concat(last, when(a.Name == "", a.At, api.ErrName), expFaults(datas, a.Body, slices.Concat(names, []string{a.Name})))
	}
	return slices.Concat(last, when(true, a.At, api.ErrArg))
}

// model is what Check must answer.
func model(p api.Program) fault {
	if all := faultsOf(p); len(all) > 0 {
		return all[0]
	}
	return fault{}
}

func short(x any) string {
	s := strings.ToValidUTF8(fmt.Sprintf("%+v", x), "?")
	if len(s) > 800 {
		s = s[:700] + " .. " + s[len(s)-80:]
	}
	return s
}

// want holds Check to a place and an error, twice, and what was handed in to what it was, with its spare room.
func want(t *testing.T, p api.Program, w fault) {
	t.Helper()
	was := whole(p)
	for range 2 {
		if at, e := scope.Check(p); at != w.at || e != w.e {
			t.Errorf("%d, %d; want %d, %d: %s", at, int(e), w.at, int(w.e), short(p))
			return
		}
	}
	if whole(p) != was {
		t.Errorf("it was changed: %s", short(was))
	}
}

// agree holds Check and the model to a place and an error.
func agree(t *testing.T, p api.Program, w fault) {
	t.Helper()
	if m := model(p); m != w {
		t.Errorf("the model says %v, not %v: %s", m, w, short(p))
	}
	want(t, p, w)
}

// text is a text's program, and the place of the mark ^ in it, which is no part of it; 0 without one.
func text(t *testing.T, s string) (api.Program, int) {
	t.Helper()
	at := max(0, strings.Index(s, "^"))
	p, place, e := tree.Parse(strings.ReplaceAll(s, "^", ""))
	if e != api.OK {
		t.Fatalf("%s: %d at %d", s, int(e), place)
	}
	return p, at
}

// whole tells all that something is, with the spare room of its lists.
func whole(x any) string {
	var text strings.Builder
	tell(&text, reflect.ValueOf(x))
	return text.String()
}

func tell(text *strings.Builder, v reflect.Value) {
	switch v.Kind() {
	case reflect.Struct:
		for i := range v.NumField() {
			tell(text, v.Field(i))
		}
		text.WriteByte('.')
	case reflect.Slice:
		fmt.Fprintf(text, "[%d %d %v:", v.Len(), v.Cap(), v.IsNil())
		if v.Cap() > 0 {
			v = v.Slice(0, v.Cap())
		}
		for i := range v.Len() {
			tell(text, v.Index(i))
		}
		text.WriteByte(']')
	default:
		fmt.Fprintf(text, "%#v ", v.Interface())
	}
}

// copied is the program again, in memory of its own.
func copied(p api.Program) api.Program {
	return api.Program{Datas: slices.Clone(p.Datas), Binds: copiedBinds(p.Binds)}
}

func copiedBinds(l []api.Bind) []api.Bind {
	l = slices.Clone(l)
	for i := range l {
		l[i].Form.Args = slices.Clone(l[i].Form.Args)
		l[i].Form.Body = copiedExp(l[i].Form.Body)
	}
	return l
}

func copiedExp(x api.Exp) api.Exp {
	x.Atoms = slices.Clone(x.Atoms)
	x.Binds = copiedBinds(x.Binds)
	x.Kids = slices.Clone(x.Kids)
	for i := range x.Kids {
		x.Kids[i] = copiedExp(x.Kids[i])
	}
	x.Alts = slices.Clone(x.Alts)
	for i := range x.Alts {
		x.Alts[i].Vars = slices.Clone(x.Alts[i].Vars)
		x.Alts[i].Body = copiedExp(x.Alts[i].Body)
	}
	return x
}
