package code_test

import (
	"slices"
	"strings"
	"testing"

	"midden/api"
	"midden/code"
)

// R1 and the bound: lists that are as long as numbers of infos go, and as many locals as there may be.

const great = api.MaxInfo

func wantGreat(t *testing.T, what string, c api.Code, w fault) {
	t.Helper()
	if at, e := code.Check(c); at != w.at || e != w.e {
		t.Errorf("%s: %d, %d; want %d, %d", what, at, int(e), w.at, int(w.e))
	}
	if !code.Same(c, c) {
		t.Errorf("%s: not the same as itself", what)
	}
}

func TestLongCodes(t *testing.T) {
	c := api.Code{
		Cons:    slices.Repeat([]api.Con{{Name: "C", Arity: 8}}, great),
		Globals: slices.Repeat([]api.Global{{Name: "g", Info: great - 1}}, great),
		Infos:   slices.Repeat([]api.Info{{Kind: api.KThunk, To: great - 1}}, great),
		Insns:   slices.Repeat([]api.Insn{call(0, -great, -1, -great)}, great),
	}
	wantGreat(t, "right", c, fault{})
	d := c
	d.Insns = slices.Clone(c.Insns)
	for i, x := range []api.Insn{let(0, con(great-1, repeated(0, 8)...)), pickAt(great - 1), let(2, thunk(great-1)), arms(3, onCon(great-1, 4)), ret(11, 10)} {
		d.Insns[i] = x
	}
	wantGreat(t, "the last ones are named", d, fault{})
	if code.Same(c, d) {
		t.Error("they are not the same")
	}
	d.Insns[0] = let(0, con(great, repeated(0, 8)...))
	wantGreat(t, "beyond the last one", d, fault{0, api.ErrCon})
	d.Insns[0] = let(0, con(0, repeated(-great-1, 8)...))
	wantGreat(t, "beyond the last global", d, fault{0, api.ErrRange})

	d.Insns = slices.Clone(c.Insns)
	d.Insns[great-1] = ret(0, 0)
	wantGreat(t, "the last instruction", d, fault{great - 1, api.ErrRange})
	d.Globals = slices.Clone(c.Globals)
	d.Globals[great-1].Info = great
	wantGreat(t, "the last global", d, fault{great - 1, api.ErrRange})
	d.Infos = slices.Clone(c.Infos)
	d.Infos[great-1].Kind = api.KInt
	wantGreat(t, "the last info", d, fault{great - 1, api.ErrKind})
	d.Cons = slices.Clone(c.Cons)
	d.Cons[great-1].Arity = 9
	wantGreat(t, "the last constructor", d, fault{great - 1, api.ErrArity})
}

func pickAt(info int) api.Insn { return let(1, pick(info, 7, 1)) }

func TestLongInstructions(t *testing.T) {
	long := func(last int) []int { return append(make([]int, great), last) }
	for what, w := range map[string]struct {
		c api.Code
		w fault
	}{
		"a call":           {about(call(1, 0, long(0)...)), fault{begin, api.ErrArity}},
		"a primitive":      {about(primitive(1, 1, long(0)...)), fault{begin, api.ErrArity}},
		"what is kept":     {about(choice(1, begin+2, nil, long(0)), ret(0, -1), arms(great+2, onAll(1))), fault{begin + 2, api.ErrSize}},
		"kept, no place":   {about(choice(1, begin+2, nil, long(1)), ret(0, -1), arms(great+2, onAll(1))), fault{begin, api.ErrRange}},
		"taken along":      {about(choice(1, begin+2, long(0), nil), ret(great+1, 0), arms(1, onAll(1))), fault{begin + 1, api.ErrSize}},
		"taken, no place":  {about(choice(1, begin+2, long(-3), nil), ret(great+1, 0), arms(1, onAll(1))), fault{begin, api.ErrRange}},
		"many arms":        {about(arms(1, slices.Repeat([]api.Arm{onInt(7, begin), onCon(0, 2)}, great/2)...)), fault{}},
		"the last arm":     {about(arms(1, append(slices.Repeat([]api.Arm{onInt(7, begin), onCon(0, 2)}, great/2), onAll(2))...)), fault{begin, api.ErrSize}},
		"many closures":    {about(let(1, slices.Repeat([]api.Make{num(7), con(1)}, great/2)...), ret(great+1, great)), fault{begin + 1, api.ErrSize}},
		"the last closure": {about(let(1, append(slices.Repeat([]api.Make{num(7), con(1)}, great/2), thunk(3, great+2))...), ret(great+2, 0)), fault{begin, api.ErrRange}},
		"a closure's own":  {about(let(1, thunk(3, long(0)...)), ret(2, 0)), fault{begin, api.ErrArity}},
	} {
		wantGreat(t, what, w.c, w.w)
	}
}

// A group of as many closures as there may be locals, of functions that need as much as there may be; and as many
// instructions one behind the other as can lay something.
func TestAsManyLocalsAsThereMayBe(t *testing.T) {
	c := api.Code{Infos: []api.Info{{Kind: api.KFun, Arity: 8, Free: 255}}, Insns: []api.Insn{call(263, 262, repeated(261, 8)...)}}
	group := let(0)
	for i := range api.MaxLocals {
		m := fun(0)
		for j := range 255 {
			m.From = append(m.From, (i+j)%api.MaxLocals)
		}
		group.Makes = append(group.Makes, m)
	}
	c.Insns = append(c.Insns, group, ret(1000, 999))
	agree(t, c, fault{})
	rightHeads(t, c)
	d := copied(c)
	d.Insns[1].Makes[999].From[254] = 1000
	agree(t, d, fault{1, api.ErrRange})
	d = copied(c)
	d.Insns[1].Makes = append(d.Insns[1].Makes, num(1))
	d.Insns[2].B = 1001
	agree(t, d, fault{2, api.ErrSize})

	row := api.Code{Infos: []api.Info{{Kind: api.KThunk}}}
	for b := range api.MaxLocals {
		row.Insns = append(row.Insns, let(b, num(int64(b))))
	}
	row.Insns = append(row.Insns, ret(1000, 0))
	agree(t, row, fault{})
	if s := follow(row); s != "" {
		t.Error(s)
	}
	row.Insns[1000] = let(1000, num(1))
	agree(t, row, fault{1000, api.ErrRange})
	row.Insns = append(row.Insns, ret(1001, 0))
	agree(t, row, fault{1001, api.ErrSize})
}

func TestLongNames(t *testing.T) {
	a, b := about(), about()
	long := strings.Repeat("x", 1<<24)
	a.Cons[0].Name, a.Globals[0].Name = long, long
	b.Cons[0].Name, b.Globals[0].Name = strings.Clone(long), strings.Clone(long)
	wantSame(t, a, b, true)
	b.Globals[0].Name = long[1:] + "y"
	wantSame(t, a, b, false)
}
