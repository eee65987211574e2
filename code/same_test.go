package code_test

import (
	"fmt"
	"math"
	"reflect"
	"slices"
	"testing"

	"midden/api"
	"midden/code"
)

// P12.3.

// What the chapter names of each kind, beside the kind itself, and of each Op, beside the Op and B.
var (
	infoNames = map[int][]string{api.KFun: {"Arity", "Free", "To"}, api.KThunk: {"Arity", "Free", "To"}}
	insnNames = map[int][]string{api.ILet: {"Makes"}, api.ICall: {"A", "List"}, api.IRet: {"A"}, api.ICase: {"A", "List", "Keep"}, api.IArms: {"Arms"}, api.IPrim: {"A", "List"}}
	makeNames = map[int][]string{api.KCon: {"Info", "From"}, api.KInt: {"N"}, api.KFun: {"Info", "From"}, api.KThunk: {"Info", "From"}, api.KSel: {"Info", "N", "From"}}
	armNames  = map[int][]string{api.ACon: {"Con", "To"}, api.AInt: {"N", "To"}, api.AAll: {"To"}}
)

func names(x any, field string) bool {
	switch x := x.(type) {
	case api.Info:
		return field == "Kind" || slices.Contains(infoNames[x.Kind], field)
	case api.Insn:
		return field == "Op" || field == "B" || slices.Contains(insnNames[x.Op], field)
	case api.Make:
		return field == "Kind" || slices.Contains(makeNames[x.Kind], field)
	case api.Arm:
		return field == "Kind" || slices.Contains(armNames[x.Kind], field)
	}
	return true
}

// knobs calls for each list, number and text of a code, and says whether it is named.
func knobs(c *api.Code, turn func(v reflect.Value, named bool)) {
	knobsOf(reflect.ValueOf(c).Elem(), true, turn)
}

func knobsOf(v reflect.Value, named bool, turn func(v reflect.Value, named bool)) {
	switch v.Kind() {
	case reflect.Struct:
		was := v.Interface()
		for i := range v.NumField() {
			knobsOf(v.Field(i), named && names(was, v.Type().Field(i).Name), turn)
		}
	case reflect.Slice:
		for i := range v.Len() {
			knobsOf(v.Index(i), named, turn)
		}
		turn(v, named)
	default:
		turn(v, named)
	}
}

// turns are what may be done to a knob, each of which leaves it other than it was.
func turns(v reflect.Value) []func(v reflect.Value) {
	switch v.Kind() {
	case reflect.Int, reflect.Int64:
		return []func(v reflect.Value){
			func(v reflect.Value) { v.SetInt(v.Int() + 1) },
			func(v reflect.Value) { v.SetInt(v.Int() - 1) },
			func(v reflect.Value) { v.SetInt(v.Int() ^ 1<<32) },
			func(v reflect.Value) { v.SetInt(v.Int() ^ math.MinInt64) },
			func(v reflect.Value) { v.SetInt(^v.Int()) },
		}
	case reflect.String:
		return []func(v reflect.Value){
			func(v reflect.Value) { v.SetString(v.String() + "x") },
			func(v reflect.Value) { v.SetString("\x00" + v.String()) },
		}
	}
	l := []func(v reflect.Value){func(v reflect.Value) { v.Set(reflect.Append(v, reflect.Zero(v.Type().Elem()))) }}
	if v.Len() > 0 {
		l = append(l, func(v reflect.Value) { v.Set(v.Slice(0, v.Len()-1)) }, func(v reflect.Value) { v.Set(v.Slice(1, v.Len())) }, func(v reflect.Value) { v.Set(reflect.AppendSlice(v, v)) })
	}
	return l
}

// full is a code with an instruction of each Op, an info, a Make and an Arm of each Kind, also of some that are none, and
// something in each field.
func full() api.Code {
	c := api.Code{
		Cons:    []api.Con{{Name: "C", Arity: 2}, {Name: "D", Arity: 3}},
		Globals: []api.Global{{Name: "f", Info: 1}, {Name: "main", Info: 2}},
	}
	for kind := -1; kind <= 8; kind++ {
		c.Infos = append(c.Infos, api.Info{Kind: kind, Arity: 5, Free: 6, To: 7})
	}
	for op := -1; op <= 8; op++ {
		x := api.Insn{Op: op, A: 5, B: 6, List: []int{7, 8, -1}, Keep: []int{9, 10}}
		for kind := -1; kind <= 9; kind++ {
			x.Makes = append(x.Makes, api.Make{Kind: kind, Info: 5, N: 6, From: []int{7, 8}})
			x.Arms = append(x.Arms, api.Arm{Kind: kind, Con: 5, N: 6, To: 7})
		}
		c.Insns = append(c.Insns, x)
	}
	return c
}

// wantSame holds Same to an answer, both ways round, and what was handed in to what it was.
func wantSame(t *testing.T, a, b api.Code, want bool) {
	t.Helper()
	if code.Same(a, b) != want || code.Same(b, a) != want {
		t.Errorf("%v, %v; want %v:\n%s\n%s", code.Same(a, b), code.Same(b, a), want, short(a), short(b))
	}
}

// Each knob of a code with something everywhere is turned in each way: the codes are alike just if it is not named.
func TestEachFieldAlone(t *testing.T) {
	a := full()
	wantSame(t, a, copied(a), true)
	was := whole(a)
	var all []int // how many turns each knob has
	knobs(&a, func(v reflect.Value, named bool) { all = append(all, len(turns(v))) })
	count := map[bool]int{}
	for i, many := range all {
		for way := range many {
			b := copied(a)
			at, isNamed := 0, false
			knobs(&b, func(v reflect.Value, named bool) {
				if at++; at-1 == i {
					turns(v)[way](v)
					isNamed = named
				}
			})
			wantSame(t, a, b, !isNamed)
			count[isNamed]++
		}
	}
	if count[true] < 300 || count[false] < 2000 {
		t.Errorf("turned %v: too few", count)
	}
	if whole(a) != was {
		t.Error("it was changed")
	}
}

// Everything that is not named may be other at once; and whatever Kind another Kind becomes, it is not the same.
func TestAllThatIsNotNamed(t *testing.T) {
	a, b := full(), full()
	knobs(&b, func(v reflect.Value, named bool) {
		if !named {
			turns(v)[0](v)
		}
	})
	wantSame(t, a, b, true)
	knobs(&b, func(v reflect.Value, named bool) {
		if !named {
			v.SetZero()
		}
	})
	wantSame(t, a, b, true)
	for i := range a.Insns {
		for j := range a.Insns {
			b := copied(a)
			b.Insns[i].Op = a.Insns[j].Op
			wantSame(t, a, b, i == j)
		}
	}
	for i := range a.Infos {
		for j := range a.Infos {
			b := copied(a)
			b.Infos[i].Kind = a.Infos[j].Kind
			wantSame(t, a, b, i == j)
		}
	}
}

func TestKindsOfPartsAreHeldAgainstEachOther(t *testing.T) {
	for _, i := range someNumbers {
		for _, j := range someNumbers {
			wantSame(t, about(let(1, api.Make{Kind: i})), about(let(1, api.Make{Kind: j})), i == j)
			wantSame(t, about(arms(1, api.Arm{Kind: i})), about(arms(1, api.Arm{Kind: j})), i == j)
			wantSame(t, about(api.Insn{Op: i}), about(api.Insn{Op: j}), i == j)
			wantSame(t, about(api.Insn{B: i}), about(api.Insn{B: j}), i == j)
			wantSame(t, api.Code{Infos: []api.Info{{Kind: i}}}, api.Code{Infos: []api.Info{{Kind: j}}}, i == j)
		}
	}
}

// Each two of some codes that nearly are the same.
func TestNearlySame(t *testing.T) {
	all := []api.Code{
		{},
		{Cons: []api.Con{{}}},
		{Cons: []api.Con{{}, {}}},
		{Cons: []api.Con{{Name: "C"}}},
		{Cons: []api.Con{{Arity: 1}}},
		{Cons: []api.Con{{Name: "C"}, {Name: "D"}}},
		{Cons: []api.Con{{Name: "D"}, {Name: "C"}}},
		{Globals: []api.Global{{}}},
		{Globals: []api.Global{{Name: "C"}}},
		{Globals: []api.Global{{Info: 1}}},
		{Globals: []api.Global{{Name: "a"}, {Name: "b"}}},
		{Globals: []api.Global{{Name: "b"}, {Name: "a"}}},
		{Infos: []api.Info{{}}},
		{Infos: []api.Info{{Kind: api.KThunk}}},
		{Infos: []api.Info{{Kind: api.KFun}}},
		{Infos: []api.Info{{Kind: api.KFun}, {Kind: api.KThunk}}},
		{Infos: []api.Info{{Kind: api.KThunk}, {Kind: api.KFun}}},
		{Insns: []api.Insn{{}}},
		{Insns: []api.Insn{ret(0, 0)}},
		{Insns: []api.Insn{ret(0, 0), ret(0, 0)}},
		{Insns: []api.Insn{call(0, 0)}},
		{Insns: []api.Insn{call(0, 0, 1, 2)}},
		{Insns: []api.Insn{call(0, 0, 2, 1)}},
		{Insns: []api.Insn{primitive(0, 0, 2, 1)}},
		{Insns: []api.Insn{choice(0, 0, []int{1}, []int{2})}},
		{Insns: []api.Insn{choice(0, 0, []int{2}, []int{1})}},
		{Insns: []api.Insn{choice(0, 0, []int{1, 2}, nil)}},
		{Insns: []api.Insn{choice(0, 0, nil, []int{1, 2})}},
		{Insns: []api.Insn{let(0)}},
		{Insns: []api.Insn{arms(0)}},
		{Insns: []api.Insn{let(0, con(1, 2, 3))}},
		{Insns: []api.Insn{let(0, con(1, 3, 2))}},
		{Insns: []api.Insn{let(0, con(1, 2), con(3))}},
		{Insns: []api.Insn{let(0, con(1), con(3, 2))}},
		{Insns: []api.Insn{let(0, con(3), con(1, 2))}},
		{Insns: []api.Insn{arms(0, onAll(1))}},
		{Insns: []api.Insn{arms(0, onAll(1), onAll(1))}},
		{Insns: []api.Insn{arms(0, onInt(1, 2))}},
		{Insns: []api.Insn{arms(0, onCon(1, 2))}},
		{Insns: []api.Insn{arms(0, onInt(2, 1))}},
		{Insns: []api.Insn{arms(0, onCon(2, 1))}},
		full(), orderly(), about(),
	}
	for i, a := range all {
		for j, b := range all {
			wantSame(t, a, b, i == j)
		}
	}
}

// A list without an element is nil or empty, and spare room is nothing.
func TestEmptyLists(t *testing.T) {
	empty := func(c api.Code) api.Code {
		c = copied(c)
		knobs(&c, func(v reflect.Value, named bool) {
			if v.Kind() == reflect.Slice {
				v.Set(reflect.AppendSlice(reflect.MakeSlice(v.Type(), 0, v.Len()+2), v))
			}
		})
		return c
	}
	none := func(c api.Code) api.Code {
		c = copied(c)
		knobs(&c, func(v reflect.Value, named bool) {
			if v.Kind() == reflect.Slice && v.Len() == 0 {
				v.SetZero()
			}
		})
		return c
	}
	for _, c := range []api.Code{{}, orderly(), about(call(0, -1), let(0), arms(1), choice(0, 0, nil, nil), let(0, con(1), thunk(0)), primitive(0, 8)), full()} {
		wantSame(t, empty(c), none(c), true)
		w := model(c)
		agree(t, empty(c), w)
		agree(t, none(c), w)
	}
}

// told is all that is named of a code, as a text.
func told(c api.Code) string {
	c = copied(c)
	knobs(&c, func(v reflect.Value, named bool) {
		if !named || v.Kind() == reflect.Slice && v.Len() == 0 {
			v.SetZero()
		}
	})
	return fmt.Sprintf("%#v", c)
}
