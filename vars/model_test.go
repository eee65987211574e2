package vars_test

import (
	"fmt"
	"reflect"
	"slices"
	"strings"
	"testing"

	"midden/api"
	"midden/tree"
	"midden/vars"
)

// spot is a name that stands somewhere in an expression, with all that is bound around it there.
type spot struct {
	name   string
	around []string
}

// spots is the model: all that is read, in the order of reading. What is bound is a list that is never changed: each
// inner scope has one of its own.
func spots(x api.Exp, around []string) []spot {
	var all []spot
	if x.Kind == api.XApp {
		all = append(all, spot{x.Name, around})
	}
	if x.Kind == api.XApp || x.Kind == api.XCon || x.Kind == api.XPrim {
		for _, a := range x.Atoms {
			all = append(all, spot{a.Name, around})
		}
	}
	if x.Kind == api.XLet {
		inner := around
		for _, b := range x.Binds {
			inner = slices.Concat(inner, []string{b.Name})
		}
		for _, b := range x.Binds {
			all = append(all, spots(b.Form.Body, slices.Concat(inner, b.Form.Args))...)
		}
		for _, kid := range x.Kids[:min(1, len(x.Kids))] {
			all = append(all, spots(kid, inner)...)
		}
	}
	if x.Kind == api.XCase {
		for _, kid := range x.Kids[:min(1, len(x.Kids))] {
			all = append(all, spots(kid, around)...)
		}
		for _, a := range x.Alts {
			inner := map[int][]string{api.ACon: a.Vars, api.AInt: nil, api.AAll: {a.Name}}
			if names, ok := inner[a.Kind]; ok {
				all = append(all, spots(a.Body, slices.Concat(around, names))...)
			}
		}
	}
	return all
}

// model is what Free must answer; of a form without arguments it is what Within must answer of its body.
func model(f api.Form) []string {
	var all []string
	for _, s := range spots(f.Body, f.Args) {
		if s.name != "" && !slices.Contains(s.around, s.name) && !slices.Contains(all, s.name) {
			all = append(all, s.name)
		}
	}
	return all
}

// pick is what Field tells.
type pick struct {
	con   string
	field int
	of    string
	ok    bool
}

func fieldOf(f api.Form) pick {
	con, field, of, ok := vars.Field(f)
	return pick{con, field, of, ok}
}

// modelField looks for the field from the front, and keeps the last.
func modelField(f api.Form) pick {
	x := f.Body
	if len(f.Args) != 0 || x.Kind != api.XCase || len(x.Kids) == 0 || len(x.Alts) != 1 {
		return pick{}
	}
	a := x.Alts[0]
	if x.Kids[0].Kind != api.XApp || len(x.Kids[0].Atoms) != 0 {
		return pick{}
	}
	if a.Kind != api.ACon || a.Body.Kind != api.XApp || len(a.Body.Atoms) != 0 {
		return pick{}
	}
	var told pick
	for i, name := range a.Vars {
		if name == a.Body.Name {
			told = pick{a.Name, i, x.Kids[0].Name, true}
		}
	}
	return told
}

func modelClass(f api.Form) int {
	switch {
	case len(f.Args) != 0:
		return api.KFun
	case f.Body.Kind == api.XCon:
		return api.KCon
	case f.Body.Kind == api.XInt:
		return api.KInt
	case modelField(f).ok:
		return api.KSel
	}
	return api.KThunk
}

func short(x any) string {
	s := strings.ToValidUTF8(fmt.Sprintf("%+v", x), "?")
	if len(s) > 800 {
		s = s[:700] + " .. " + s[len(s)-80:]
	}
	return s
}

// wantNames holds what a call tells to a list, and to be new memory: what is done with an answer is not seen in the next.
func wantNames(t *testing.T, what string, x any, told func() []string, want []string) {
	t.Helper()
	for range 2 {
		l := told()
		if !slices.Equal(l, want) {
			t.Errorf("%s: %q; want %q: %s", what, l, want, short(x))
			return
		}
		for i := range l[:cap(l)] {
			l[:cap(l)][i] = "spoiled"
		}
	}
}

// byModel holds all four functions to the model, and what was handed in to what it was, with its spare room.
func byModel(t *testing.T, f api.Form) {
	t.Helper()
	was := whole(f)
	wantNames(t, "Free", f, func() []string { return vars.Free(f) }, model(f))
	wantNames(t, "Within", f.Body, func() []string { return vars.Within(f.Body) }, model(api.Form{Body: f.Body}))
	for range 2 {
		if got, want := fieldOf(f), modelField(f); got != want {
			t.Errorf("Field: %s; want %s: %s", short(got), short(want), short(f))
		}
		if got, want := vars.Class(f), modelClass(f); got != want {
			t.Errorf("Class: %d; want %d: %s", got, want, short(f))
		}
	}
	if whole(f) != was {
		t.Errorf("it was changed: %s", short(was))
	}
}

// wantFree holds Free and the model to names, and all else to the model.
func wantFree(t *testing.T, f api.Form, names ...string) {
	t.Helper()
	if m := model(f); !slices.Equal(m, names) {
		t.Errorf("the model says %q, not %q: %s", m, names, short(f))
	}
	byModel(t, f)
}

// wantField holds Field and the model to what is picked, and all else to the model.
func wantField(t *testing.T, f api.Form, want pick) {
	t.Helper()
	if m := modelField(f); m != want {
		t.Errorf("the model says %s, not %s: %s", short(m), short(want), short(f))
	}
	byModel(t, f)
}

// wantClass holds Class and the model to a class, and all else to the model.
func wantClass(t *testing.T, f api.Form, class int) {
	t.Helper()
	if m := modelClass(f); m != class {
		t.Errorf("the model says %d, not %d: %s", m, class, short(f))
	}
	byModel(t, f)
}

func program(t *testing.T, s string) api.Program {
	t.Helper()
	p, at, e := tree.Parse(s)
	if e != api.OK {
		t.Fatalf("%s: %d at %d", s, int(e), at)
	}
	return p
}

// form is the form that a text is.
func form(t *testing.T, s string) api.Form {
	t.Helper()
	return program(t, "f = "+s+";").Binds[0].Form
}

// whole tells all that something is, with the spare room of its lists.
func whole(x any) string {
	var text strings.Builder
	tell(&text, reflect.ValueOf(x))
	return text.String()
}

func tell(text *strings.Builder, v reflect.Value) {
	switch v.Kind() {
	case reflect.Struct:
		for i := range v.NumField() {
			tell(text, v.Field(i))
		}
		text.WriteByte('.')
	case reflect.Slice:
		fmt.Fprintf(text, "[%d %d %v:", v.Len(), v.Cap(), v.IsNil())
		if v.Cap() > 0 {
			v = v.Slice(0, v.Cap())
		}
		for i := range v.Len() {
			tell(text, v.Index(i))
		}
		text.WriteByte(']')
	default:
		fmt.Fprintf(text, "%#v ", v.Interface())
	}
}
