package lazy_test

import (
	"fmt"
	"math/rand"
	"reflect"
	"slices"
	"strings"
	"testing"

	"midden/api"
	"midden/lazy"
	"midden/tree"
)

// machine is what a machine and its model have in common.
type machine interface {
	Make(name string, with []int64) (int, api.Errno)
	Show(h, depth, fuel int) (api.Outcome, api.Errno)
	Drop(h int) api.Errno
	Out() []int64
	Steps() int
}

func program(t *testing.T, s string) api.Program {
	t.Helper()
	p, at, e := tree.Parse(s)
	if e != api.OK {
		t.Fatalf("%s: %d at %d", s, int(e), at)
	}
	return p
}

// started is a machine of a program that is right.
func started(t *testing.T, p api.Program) *lazy.Machine {
	t.Helper()
	m, at, e := lazy.New(p)
	if m == nil || at != 0 || e != api.OK {
		t.Fatalf("New: %v, %d at %d: %s", m != nil, int(e), at, short(p))
	}
	return m
}

func modelled(t *testing.T, p api.Program) *model {
	t.Helper()
	m, at, e := newModel(p)
	if e != api.OK {
		t.Fatalf("the model: %d at %d: %s", int(e), at, short(p))
	}
	return m
}

func short(x any) string {
	s := strings.ToValidUTF8(fmt.Sprintf("%+v", x), "?")
	if len(s) > 1500 {
		s = s[:1400] + " .. " + s[len(s)-80:]
	}
	return s
}

// treeText is a tree as a text; of a tree that has what its kind does not name it is told.
func treeText(x api.Tree) string {
	named := api.Tree{Kind: x.Kind}
	var kids []string
	for _, kid := range x.Kids {
		kids = append(kids, treeText(kid))
	}
	told := ""
	switch x.Kind {
	case api.SInt:
		named.N = x.N
		told = fmt.Sprint(x.N)
	case api.SCon:
		named.Name, named.Kids = x.Name, x.Kids
		told = x.Name
		if len(kids) > 0 {
			told = "(" + x.Name + " " + strings.Join(kids, " ") + ")"
		}
	case api.SFun:
		told = "<fun>"
	case api.SRef:
		named.Kids = x.Kids
		told = "<ref " + strings.Join(kids, " ") + ">"
	case api.SArr:
		named.Kids = x.Kids
		told = "[" + strings.Join(kids, " ") + "]"
	case api.SCut:
		told = "_"
	}
	if told == "" || !reflect.DeepEqual(x, named) {
		return fmt.Sprintf("no tree: %+v", x)
	}
	return told
}

// outcomeText is an outcome as a text.
func outcomeText(o api.Outcome) string {
	named, told := api.Outcome{Kind: o.Kind}, ""
	switch o.Kind {
	case api.OValue:
		named.Tree = o.Tree
		told = treeText(o.Tree)
	case api.OLoop:
		told = "loop"
	case api.OError:
		named.Err = o.Err
		told = fmt.Sprint("fail ", int(o.Err))
	case api.OFuel:
		told = "fuel"
	}
	if told == "" || !reflect.DeepEqual(o, named) {
		return fmt.Sprintf("no outcome: %+v", o)
	}
	return told
}

// shown is the text of what a Show tells.
func shown(o api.Outcome, e api.Errno) string {
	if e != api.OK {
		if !reflect.DeepEqual(o, api.Outcome{}) {
			return fmt.Sprintf("an outcome beside the error %d: %+v", int(e), o)
		}
		return fmt.Sprint("error ", int(e))
	}
	return outcomeText(o)
}

// made is a handle of a bind that there is.
func made(t *testing.T, m machine, name string, with ...int64) int {
	t.Helper()
	h, e := m.Make(name, with)
	if e != api.OK {
		t.Fatalf("Make(%s, %d): %d", name, with, int(e))
	}
	return h
}

// result is what came of a Show: its text, and what was put out and counted by then.
type result struct {
	told  string
	out   string
	steps int
}

func resultOf(m machine, h, depth, fuel int) result {
	o, e := m.Show(h, depth, fuel)
	return result{shown(o, e), outText(m.Out()), m.Steps()}
}

// outText is numbers as a text; that of a beginning is a beginning of it.
func outText(l []int64) string {
	s := ""
	for _, n := range l {
		s += fmt.Sprint(n, ";")
	}
	return s
}

// asked is what is made of a program, and shown.
type asked struct {
	p     api.Program
	name  string
	with  []int64
	depth int
}

func (a asked) on(t *testing.T, m machine, fuel int) result {
	t.Helper()
	return resultOf(m, made(t, m, a.name, a.with...), a.depth, fuel)
}

// held holds a run to the model and to P11.5 to P11.7, and tells what comes of it.
func held(t *testing.T, a asked) result {
	t.Helper()
	m := started(t, a.p)
	h := made(t, m, a.name, a.with...)
	got := resultOf(m, h, a.depth, api.MaxFuel)
	if want := a.on(t, modelled(t, a.p), api.MaxFuel); got != want {
		t.Errorf("%+v; the model says %+v: %s", got, want, short(a))
	}
	if got.told == "fuel" {
		return got
	}
	if !mutates(a.p) {
		for _, fuel := range []int{0, api.MaxFuel} {
			if again := resultOf(m, h, a.depth, fuel); again != got {
				t.Errorf("again: %+v, not %+v: %s", again, got, short(a))
			}
		}
	}
	if enough := a.on(t, started(t, a.p), got.steps); enough != got {
		t.Errorf("with just enough fuel %+v, not %+v: %s", enough, got, short(a))
	}
	heldShort(t, a, got)
	for i, q := range []api.Program{renamed(a.p, freshNames()), renamed(a.p, levelNames), turned(a.p, slices.Reverse[[]api.Bind]), turned(a.p, shuffled(7))} {
		b := a
		b.p = q
		if other := b.on(t, started(t, q), api.MaxFuel); other != got {
			t.Errorf("by other names, in another order (%d): %+v, not %+v: %s", i, other, got, short(a))
		}
	}
	return got
}

// heldShort holds runs with too little fuel to what the whole one told.
func heldShort(t *testing.T, a asked, whole result) {
	t.Helper()
	for _, fuel := range []int{whole.steps - 1, whole.steps / 2, 0} {
		if fuel < 0 || fuel == whole.steps {
			continue
		}
		m := started(t, a.p)
		got := a.on(t, m, fuel)
		if got.told != "fuel" || got.steps != fuel {
			t.Errorf("with %d of %d steps: %+v: %s", fuel, whole.steps, got, short(a))
		}
		if !strings.HasPrefix(whole.out, got.out) {
			t.Errorf("with %d of %d steps %s is put out, not the beginning of %s: %s", fuel, whole.steps, got.out, whole.out, short(a))
		}
		if _, e := m.Make("main", nil); e != api.ErrDead {
			t.Errorf("with %d of %d steps it is not dead, %d: %s", fuel, whole.steps, int(e), short(a))
		}
	}
}

// mutates tells whether a program has #set or #put.
func mutates(p api.Program) bool {
	s := fmt.Sprintf("%v", p)
	return strings.Contains(s, "#set") || strings.Contains(s, "#put")
}

// line is a run by hand: what main is called with, what comes of it to the depth 8, what is put out, how many steps
// are counted (-1: as the model says).
type line struct {
	text  string
	with  []int64
	told  string
	out   []int64
	steps int
}

func holdLines(t *testing.T, prelude string, lines []line) {
	t.Helper()
	for _, l := range lines {
		got := held(t, asked{program(t, prelude+l.text), "main", l.with, 8})
		want := result{l.told, outText(l.out), l.steps}
		if l.steps < 0 {
			want.steps = got.steps
		}
		if got != want {
			t.Errorf("%s %d: %+v, not %+v", l.text, l.with, got, want)
		}
	}
}

// P11.7: the same program by other names, and in another order.

// namer tells a new name of one that is bound at a level (from 1 on), as the one of a number there.
type namer func(level, i int) string

func freshNames() namer {
	n := 0
	return func(level, i int) string {
		n++
		return fmt.Sprint("new", n)
	}
}

// levelNames has the same names for scopes beside one another.
func levelNames(level, i int) string { return fmt.Sprint("x", level, "y", i) }

type renaming struct {
	namer
	level int
	now   map[string]string
}

func (r renaming) inside(names []string) (renaming, []string) {
	inner := renaming{r.namer, r.level + 1, map[string]string{}}
	for old, now := range r.now {
		inner.now[old] = now
	}
	var l []string
	for i, name := range names {
		l = append(l, r.namer(inner.level, i))
		inner.now[name] = l[i]
	}
	return inner, l
}

func (r renaming) name(name string) string {
	if now, ok := r.now[name]; ok {
		return now
	}
	return name
}

func (r renaming) form(f api.Form) api.Form {
	inner, args := r.inside(f.Args)
	return api.Form{Args: args, Body: inner.exp(f.Body)}
}

func (r renaming) exp(x api.Exp) api.Exp {
	y := api.Exp{Kind: x.Kind, Name: x.Name, N: x.N}
	if x.Kind == api.XApp {
		y.Name = r.name(x.Name)
	}
	for _, a := range x.Atoms {
		y.Atoms = append(y.Atoms, api.Atom{Name: r.name(a.Name), N: a.N})
	}
	var names []string
	for _, b := range x.Binds {
		names = append(names, b.Name)
	}
	inner, names := r.inside(names)
	for i, b := range x.Binds {
		y.Binds = append(y.Binds, api.Bind{Name: names[i], Form: inner.form(b.Form)})
	}
	for _, kid := range x.Kids {
		y.Kids = append(y.Kids, inner.exp(kid))
	}
	for _, a := range x.Alts {
		b := a
		if a.Kind == api.AAll {
			in, l := r.inside([]string{a.Name})
			b.Name, b.Body = l[0], in.exp(a.Body)
		} else {
			in, l := r.inside(a.Vars)
			b.Vars, b.Body = l, in.exp(a.Body)
		}
		y.Alts = append(y.Alts, b)
	}
	return y
}

// renamed is a program with other names of all but its own binds.
func renamed(p api.Program, n namer) api.Program {
	q := api.Program{Datas: p.Datas}
	for _, b := range p.Binds {
		q.Binds = append(q.Binds, api.Bind{Name: b.Name, Form: renaming{n, 0, map[string]string{}}.form(b.Form)})
	}
	return q
}

func shuffled(seed int64) func(l []api.Bind) {
	r := rand.New(rand.NewSource(seed))
	return func(l []api.Bind) { r.Shuffle(len(l), func(i, j int) { l[i], l[j] = l[j], l[i] }) }
}

// turned is a program each of whose lists of binds is in another order.
func turned(p api.Program, turn func(l []api.Bind)) api.Program {
	return api.Program{Datas: p.Datas, Binds: turnedBinds(p.Binds, turn)}
}

func turnedBinds(l []api.Bind, turn func(l []api.Bind)) []api.Bind {
	l = slices.Clone(l)
	turn(l)
	for i := range l {
		l[i].Form.Body = turnedExp(l[i].Form.Body, turn)
	}
	return l
}

func turnedExp(x api.Exp, turn func(l []api.Bind)) api.Exp {
	x.Binds, x.Kids, x.Alts = turnedBinds(x.Binds, turn), slices.Clone(x.Kids), slices.Clone(x.Alts)
	for i := range x.Kids {
		x.Kids[i] = turnedExp(x.Kids[i], turn)
	}
	for i := range x.Alts {
		x.Alts[i].Body = turnedExp(x.Alts[i].Body, turn)
	}
	return x
}
