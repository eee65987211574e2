package gen_test

import (
	"fmt"
	"math"
	"slices"
	"strings"
	"testing"

	"midden/api"
	"midden/code"
)

// written is a program's text, and the code that it must be, by hand: its infos, then its instructions. An info: its kind,
// its arguments, how many it needs, where it begins. An instruction: how many locals there are, then what it is.
type written struct {
	text, infos string
	insns       []string
}

func insns(l ...string) []string { return l }

func holdWritten(t *testing.T, l []written) {
	t.Helper()
	for _, w := range l {
		got := byModel(t, program(t, w.text))
		want := w.infos + " | " + strings.Join(w.insns, " | ")
		if got.e != api.OK || told(got.c) != want {
			t.Errorf("%s: %d: %s; want %s", w.text, int(got.e), told(got.c), want)
		}
	}
}

func TestExamples(t *testing.T) {
	holdWritten(t, []written{
		{"main = 5;", "thunk+0@0", insns("0 let int5", "1 ret 0")},
		{`main = \ x -> case x of { y -> main y; };`, "fun1+0@0",
			insns("1 case [0] keep [] @2", "1 call 0 []", "1 arms all@3", "1 call -1 [0]")},
	})
}

// P13.1: constructors and globals are the datas and binds, in order; infos those of the globals first.
func TestConstructorsGlobals(t *testing.T) {
	c := byModel(t, program(t, `data B 8; data A 0; data C 1; f = \ a b -> B a b a b a b a b; main = A; a = 3; g = \ x -> x;`)).c
	if want := []api.Con{{Name: "B", Arity: 8}, {Name: "A"}, {Name: "C", Arity: 1}}; !slices.Equal(c.Cons, want) {
		t.Errorf("%v; want %v", c.Cons, want)
	}
	if want := []api.Global{{Name: "f"}, {Name: "main", Info: 1}, {Name: "a", Info: 2}, {Name: "g", Info: 3}}; !slices.Equal(c.Globals, want) {
		t.Errorf("%v; want %v", c.Globals, want)
	}
	want := "fun2+0@0 thunk+0@2 thunk+0@4 fun1+0@6 | 2 let con0[0 1 0 1 0 1 0 1] | 3 ret 2 | 0 let con1[] | 1 ret 0 | 0 let int3 | 1 ret 0 | 1 call 0 []"
	if told(c) != want {
		t.Errorf("%s; want %s", told(c), want)
	}
	// A name of a constructor may be whatever, in a tree that no text has.
	p := api.Program{Datas: []api.Data{{Name: "main", Arity: 1}, {Name: ""}}, Binds: []api.Bind{bind("main", con("main", named("main"))), bind("#add", con(""))}}
	if got := told(byModel(t, p).c); got != "thunk+0@0 thunk+0@2 | 0 let con0[-1] | 1 ret 0 | 0 let con1[] | 1 ret 0" {
		t.Error(got)
	}
}

// A global is a function or a thunk, whatever its body is: a let's form alone is laid by its class.
func TestGlobalsOfEachClass(t *testing.T) {
	holdWritten(t, []written{
		{"data C 1; main = C main;", "thunk+0@0", insns("0 let con0[-1]", "1 ret 0")},
		{"data C 1; main = case main of { C x -> x; };", "thunk+0@0",
			insns("0 case [] keep [] @2", "0 call -1 []", "1 arms con0@3", "2 call 1 []")},
		{`main = \ a b c d e f g h -> h;`, "fun8+0@0", insns("8 call 7 []")},
	})
}

// P13.1: each kind of an expression, with numbers and names of locals and globals among its atoms.
func TestExpressions(t *testing.T) {
	holdWritten(t, []written{
		{"main = main;", "thunk+0@0", insns("0 call -1 []")},
		{`main = \ x -> x;`, "fun1+0@0", insns("1 call 0 []")},
		{`main = \ f x -> f x 1 main 2;`, "fun2+0@0", insns("2 let int1 int2", "4 call 0 [1 2 -1 3]")},
		{`f = 1; main = \ x -> f 1 x 1;`, "thunk+0@0 fun1+0@2", insns("0 let int1", "1 ret 0", "1 let int1 int1", "3 call -1 [1 0 2]")},
		{"main = main 1 2 3 4 5 6 7 8;", "thunk+0@0",
			insns("0 let int1 int2 int3 int4 int5 int6 int7 int8", "8 call -1 [0 1 2 3 4 5 6 7]")},
		{`main = \ a -> #sub 5 a;`, "fun1+0@0", insns("1 let int5", "2 prim2 [1 0]")},
		{`main = \ a -> #put a a main;`, "fun1+0@0", insns("1 prim15 [0 0 -1]")},
		{"main = #add 7 7;", "thunk+0@0", insns("0 let int7 int7", "2 prim1 [0 1]")},
		{"main = #emit 7;", "thunk+0@0", insns("0 let int7", "1 prim8 [0]")},
		{"data N 0; main = N;", "thunk+0@0", insns("0 let con0[]", "1 ret 0")},
		{`data N 0; data C 3; main = \ a -> C 1 a 2;`, "fun1+0@0", insns("1 let int1 int2 con1[1 0 2]", "4 ret 3")},
		{`data C 3; main = \ a b -> C b main a;`, "fun2+0@0", insns("2 let con0[1 -1 0]", "3 ret 2")},
		{"data C 3; main = C 7 main 7;", "thunk+0@0", insns("0 let int7 int7 con0[0 -1 1]", "3 ret 2")},
		{"data C 2; main = C main 7;", "thunk+0@0", insns("0 let int7 con0[-1 0]", "2 ret 1")},
		{`main = \ a -> -9223372036854775808;`, "fun1+0@0", insns("1 let int-9223372036854775808", "2 ret 1")},
		{"main = main 9223372036854775807 -1 0;", "thunk+0@0",
			insns("0 let int9223372036854775807 int-1 int0", "3 call -1 [0 1 2]")},
	})
}

// Each primitive by its number.
func TestPrimitives(t *testing.T) {
	names := strings.Fields("#add #sub #mul #div #rem #eq #lt #emit #seq #ref #get #set #arr #at #put #len")
	many := []int{2, 2, 2, 2, 2, 2, 2, 1, 2, 1, 1, 2, 2, 2, 3, 1}
	for i, name := range names {
		holdWritten(t, []written{
			{`main = \ a -> ` + name + strings.Repeat(" a", many[i]) + ";", "fun1+0@0",
				insns(fmt.Sprint("1 prim", i+1, " ", slices.Repeat([]int{0}, many[i])))},
		})
	}
}

// P13.1: a let's binds, each laid by its class.
func TestLets(t *testing.T) {
	holdWritten(t, []written{
		{`data P 2; main = \ a -> let { f = \ x -> a x p; p = P a 3; n = 7; s = case p of { P u v -> v; }; t = a p; } in f t;`,
			"fun1+0@0 fun1+2@2 thunk+2@3",
			insns("1 let int3 fun1[0 3] con0[0 1] int7 sel0.1[3] thunk2[0 3]", "7 call 2 [6]", "3 call 1 [0 2]", "2 call 0 [1]")},
		// Numbers of those that are constructors, bind by bind; the same one twice is laid twice. Others have their own inside.
		{`data P 2; main = let { a = P 1 b; n = 9; b = P 2 1; c = \ x -> P 8 8; d = #add 4 4; e = P a 5; } in b;`,
			"thunk+0@0 fun1+0@2 thunk+0@4",
			insns("0 let int1 int2 int1 int5 con0[0 6] int9 con0[1 2] fun1[] thunk2[] con0[4 3]", "10 call 6 []",
				"1 let int8 int8 con0[1 2]", "4 ret 3", "0 let int4 int4", "2 prim1 [0 1]")},
		// A group whose binds name one another, and themselves.
		{`main = let { a = b c; b = \ x -> a x; c = c; } in a;`, "thunk+0@0 thunk+2@2 fun1+1@3 thunk+1@4",
			insns("0 let thunk1[1 2] fun2[0] thunk3[2]", "3 call 0 []", "2 call 0 [1]", "2 call 1 [0]", "1 call 0 []")},
		{`data C 2; main = let { a = C b a; b = C a main; } in b;`, "thunk+0@0", insns("0 let con0[1 0] con0[0 -1]", "2 call 1 []")},
		// Lets within lets.
		{`main = let { a = 1; } in let { b = a; a = 2; } in a b;`, "thunk+0@0 thunk+1@3",
			insns("0 let int1", "1 let thunk1[2] int2", "3 call 2 [1]", "1 call 0 []")},
		{`main = let { a = let { a = 1; b = a; } in b a; } in a;`, "thunk+0@0 thunk+0@2 thunk+1@4",
			insns("0 let thunk1[]", "1 call 0 []", "0 let int1 thunk2[0]", "2 call 1 [0]", "1 call 0 []")},
		{`data N 0; main = let { a = N; } in a;`, "thunk+0@0", insns("0 let con0[]", "1 call 0 []")},
		// Eight arguments, and what is needed behind them.
		{`main = \ z -> let { f = \ a b c d e g h i -> i z f; } in f;`, "fun1+0@0 fun8+2@2",
			insns("1 let fun1[0 1]", "2 call 1 []", "10 call 7 [8 9]")},
	})
}

// P13.1: forms that pick a field, of a local, a global, of what the group has, and those that nearly do.
func TestSelectors(t *testing.T) {
	holdWritten(t, []written{
		{"data C 1; g = C g; main = let { s = case g of { C x -> x; }; } in s;", "thunk+0@0 thunk+0@2",
			insns("0 let con0[-1]", "1 ret 0", "0 let sel0.0[-1]", "1 call 0 []")},
		{"data D 1; data C 3; main = let { s = case p of { C a b c -> a; }; p = C s p s; q = case p of { C p s a -> s; }; } in s;", "thunk+0@0",
			insns("0 let sel1.0[1] con1[0 1 0] sel1.1[1]", "3 call 0 []")},
		{"data C 1; main = let { p = C p; s = case p of { C p -> p; }; } in s;", "thunk+0@0",
			insns("0 let con0[0] sel0.0[0]", "2 call 1 []")},
		{"data C 1; main = let { s = case s of { C x -> x; }; } in s;", "thunk+0@0", insns("0 let sel0.0[0]", "1 call 0 []")},
		{`data C 8; main = \ p -> let { s = case p of { C a b c d e f g h -> h; }; } in s;`, "fun1+0@0",
			insns("1 let sel0.7[0]", "2 call 1 []")},
		{`data C 1; main = \ p -> let { s = case p of { C x -> p; }; } in s;`, "fun1+0@0 thunk+1@2",
			insns("1 let thunk1[0]", "2 call 1 []", "1 case [0] keep [0] @4", "1 call 0 []", "2 arms con0@5", "3 call 0 []")},
		{`data C 1; main = \ p -> let { s = \ p -> case p of { C x -> x; }; } in s;`, "fun1+0@0 fun1+0@2",
			insns("1 let fun1[]", "2 call 1 []", "1 case [0] keep [] @4", "1 call 0 []", "1 arms con0@5", "2 call 1 []")},
		{`data C 1; main = \ p -> let { s = case p of { C x -> x; y -> y; }; } in s;`, "fun1+0@0 thunk+1@2",
			insns("1 let thunk1[0]", "2 call 1 []", "1 case [0] keep [] @4", "1 call 0 []", "1 arms con0@5 all@6", "2 call 1 []", "1 call 0 []")},
	})
}

// P13.1: where names stand that are bound twice within one another, or hide a global.
func TestHiddenNames(t *testing.T) {
	holdWritten(t, []written{
		{`main = \ x -> let { y = \ x -> x y; } in y x;`, "fun1+0@0 fun1+1@2", insns("1 let fun1[1]", "2 call 1 [0]", "2 call 0 [1]")},
		{`f = 1; main = \ f -> f main;`, "thunk+0@0 fun1+0@2", insns("0 let int1", "1 ret 0", "1 call 0 [-2]")},
		{`f = 1; main = let { f = f; } in f;`, "thunk+0@0 thunk+0@2 thunk+1@4",
			insns("0 let int1", "1 ret 0", "0 let thunk2[0]", "1 call 0 []", "1 call 0 []")},
		{`main = \ main -> let { a = \ x -> main x; } in a main;`, "fun1+0@0 fun1+1@2", insns("1 let fun1[0]", "2 call 1 [0]", "2 call 1 [0]")},
		// Behind the scope that hides a name it stands where it stood.
		{`main = \ a -> case 1 of { 1 -> let { a = 5; } in a; b -> a b; };`, "fun1+0@0",
			insns("1 case [] keep [0] @3", "0 let int1", "1 ret 0", "2 arms int1@4 all@6", "2 let int5", "3 call 2 []", "2 call 0 [1]")},
		{`g = 1; main = \ a -> case 1 of { 1 -> let { g = 5; } in g; 2 -> g; g -> g; };`, "thunk+0@0 fun1+0@2",
			insns("0 let int1", "1 ret 0", "1 case [] keep [] @5", "0 let int1", "1 ret 0", "1 arms int1@6 int2@8 all@9",
				"1 let int5", "2 call 1 []", "1 call -1 []", "1 call 0 []")},
		// Arguments of one form that another needs.
		{`main = \ x y -> let { f = \ y z -> x y; g = \ x -> f x y; } in g;`, "fun2+0@0 fun2+1@2 fun1+2@3",
			insns("2 let fun1[0] fun2[2 1]", "4 call 3 []", "3 call 2 [0]", "3 call 1 [0 2]")},
		// What a form within another needs, that one needs, too; but its own arguments and binds.
		{`main = \ a -> let { f = \ b -> let { g = \ c -> a b c main; } in g; } in f;`, "fun1+0@0 fun1+1@2 fun1+2@4",
			insns("1 let fun1[0]", "2 call 1 []", "2 let fun2[1 0]", "3 call 2 []", "3 call 1 [2 0 -1]")},
		{`main = \ a -> let { f = let { a = 1; g = a; } in g a; } in f;`, "fun1+0@0 thunk+0@2 thunk+1@4",
			insns("1 let thunk1[]", "2 call 1 []", "0 let int1 thunk2[0]", "2 call 1 [0]", "1 call 0 []")},
	})
}

// P13.1: cases: what is taken along, what is kept, where the value and what is bound stand.
func TestCases(t *testing.T) {
	holdWritten(t, []written{
		// Alternative by alternative, each once, but those that it binds itself.
		{`data C 1; main = \ a b c d -> case d a of { C b -> b c; 3 -> b c a; e -> e d; };`, "fun4+0@0",
			insns("4 case [3 0] keep [2 1 0 3] @2", "2 call 0 [1]", "5 arms con0@3 int3@4 all@5", "6 call 5 [0]", "5 call 1 [0 2]", "5 call 4 [3]")},
		{`main = \ a -> case a of { x -> a; };`, "fun1+0@0", insns("1 case [0] keep [0] @2", "1 call 0 []", "2 arms all@3", "2 call 0 []")},
		{`main = \ a -> case 1 of { x -> 2; };`, "fun1+0@0",
			insns("1 case [] keep [] @3", "0 let int1", "1 ret 0", "1 arms all@4", "1 let int2", "2 ret 1")},
		{`main = \ a -> case 1 of { 1 -> a; a -> a; };`, "fun1+0@0",
			insns("1 case [] keep [0] @3", "0 let int1", "1 ret 0", "2 arms int1@4 all@5", "2 call 0 []", "2 call 1 []")},
		{`data P 3; main = \ a b -> case a b a of { P x a y -> y a x b; };`, "fun2+0@0",
			insns("2 case [0 1] keep [1] @2", "2 call 0 [1 0]", "2 arms con0@3", "5 call 4 [3 2 0]")},
		{"data N 0; data P 2; main = case main of { P x y -> x; N -> main; -7 -> main; };", "thunk+0@0",
			insns("0 case [] keep [] @2", "0 call -1 []", "1 arms con1@3 con0@4 int-7@5", "3 call 1 []", "1 call -1 []", "1 call -1 []")},
		// Numbers and constructors in what is asked, and in what is told.
		{`data P 2; main = \ a -> case P 1 a of { P x y -> P y 2; };`, "fun1+0@0",
			insns("1 case [0] keep [] @3", "1 let int1 con0[1 0]", "3 ret 2", "1 arms con0@4", "3 let int2 con0[2 3]", "5 ret 4")},
		{`main = \ a b -> case #add b 1 of { 0 -> #sub 2 a; n -> #mul n 3; };`, "fun2+0@0",
			insns("2 case [1] keep [0] @3", "1 let int1", "2 prim1 [0 1]", "2 arms int0@4 all@6", "2 let int2", "3 prim2 [2 0]", "2 let int3", "3 prim3 [1 2]")},
		// Cases within cases, and within what is asked.
		{`main = \ a b -> case case a of { x -> x b; } of { y -> case y of { z -> z a; }; };`, "fun2+0@0",
			insns("2 case [0 1] keep [0] @5", "2 case [0] keep [1] @3", "1 call 0 []", "2 arms all@4", "2 call 1 [0]",
				"2 arms all@6", "2 case [1] keep [0] @8", "1 call 0 []", "2 arms all@9", "2 call 1 [0]")},
		// What is needed far within is kept all the way; what stands there has other places.
		{`main = \ a b c -> case c of { x -> case b of { y -> case a of { z -> x y z c; }; }; };`, "fun3+0@0",
			insns("3 case [2] keep [1 0 2] @2", "1 call 0 []", "4 arms all@3",
				"4 case [0] keep [1 3 2] @5", "1 call 0 []", "4 arms all@6",
				"4 case [0] keep [1 3 2] @8", "1 call 0 []", "4 arms all@9", "4 call 0 [1 3 2]")},
	})
}

// P13.1: infos have numbers in the order in which their forms are met, and are laid in that order.
func TestOrderOfInfos(t *testing.T) {
	holdWritten(t, []written{
		{`main = let { a = let { b = 1; c = \ x -> b x; d = c; } in d; e = a a; } in case let { f = e e; } in f of { g -> let { h = g g; } in h; };`,
			"thunk+0@0 thunk+0@7 thunk+1@9 thunk+1@10 thunk+1@11 fun1+1@12 thunk+1@13",
			insns("0 let thunk1[] thunk2[0]", "2 case [1] keep [] @4", "1 let thunk3[0]", "2 call 1 []", "1 arms all@5", "1 let thunk4[0]", "2 call 1 []",
				"0 let int1 fun5[0] thunk6[1]", "3 call 2 []", "1 call 0 [0]", "1 call 0 [0]", "1 call 0 [0]", "2 call 1 [0]", "1 call 0 []")},
		// The globals ahead of all others, wherever these are.
		{`f = let { a = f main; } in a; main = let { b = f b; } in b; g = \ x -> let { c = g x; } in c;`,
			"thunk+0@0 thunk+0@2 fun1+0@4 thunk+0@6 thunk+1@7 thunk+1@8",
			insns("0 let thunk3[]", "1 call 0 []", "0 let thunk4[0]", "1 call 0 []", "1 let thunk5[0]", "2 call 1 []",
				"0 call -1 [-2]", "1 call -1 [0]", "1 call -3 [0]")},
	})
}

// The order of reading tells the order of what is needed: binds' bodies ahead of the let's body, names ahead of atoms.
func TestOrderOfNeeds(t *testing.T) {
	holdWritten(t, []written{
		{`main = \ a b c d -> let { f = let { g = d c; } in b a g; } in f;`, "fun4+0@0 thunk+4@2 thunk+2@4",
			insns("4 let thunk1[3 2 1 0]", "5 call 4 []", "4 let thunk2[0 1]", "5 call 2 [3 4]", "2 call 0 [1]")},
		{`main = \ a b c d -> let { f = case d of { d -> c d b; }; g = \ b -> f a b f; } in g;`, "fun4+0@0 thunk+3@2 fun1+2@6",
			insns("4 let thunk1[3 2 1] fun2[4 0]", "6 call 5 []", "3 case [0] keep [1 2] @4", "1 call 0 []", "3 arms all@5", "3 call 0 [2 1]", "3 call 1 [2 0 1]")},
		{`data P 2; main = \ a b -> let { f = let { p = P b 1; s = case a of { P x y -> y; }; } in p s; } in f;`, "fun2+0@0 thunk+2@2",
			insns("2 let thunk1[1 0]", "3 call 2 []", "2 let int1 con0[0 2] sel0.1[1]", "5 call 3 [4]")},
	})
}

// P13.1: what scope.Check refuses, with its place; all else is the zero value.
func TestWrongPrograms(t *testing.T) {
	for _, w := range []struct {
		text string
		at   int
		e    api.Errno
	}{
		{"", 0, api.ErrMain},
		{"f = 1;", 0, api.ErrMain},
		{"data C 1;", 0, api.ErrMain},
		{"data C 9; main = 1;", 5, api.ErrArity},
		{"data C 1; data C 1; main = 1;", 15, api.ErrTwice},
		{"main = 1; main = 1;", 10, api.ErrTwice},
		{"main = f 1;", 7, api.ErrName},
		{"main = main f;", 7, api.ErrName},
		{"main = 1; f = \\ x x -> x;", 10, api.ErrTwice},
		{"main = 1; f = \\ a b c d e f g h i -> a;", 10, api.ErrArity},
		{"data C 1; main = C;", 17, api.ErrArity},
		{"main = C;", 7, api.ErrCon},
		{"main = #no 1;", 7, api.ErrPrim},
		{"main = #add 1;", 7, api.ErrArity},
		{"main = main 1 2 3 4 5 6 7 8 9;", 7, api.ErrArity},
		{"main = case 1 of { x -> 1; 2 -> 1; };", 27, api.ErrLast},
		{"main = case 1 of { 2 -> 1; 2 -> 1; };", 27, api.ErrTwice},
		{"data P 2; main = case 1 of { P x x -> 1; };", 29, api.ErrTwice},
		{"main = let { x = 1; x = 2; } in x;", 20, api.ErrTwice},
		{"main = let { x = 1; } in y;", 25, api.ErrName},
		{"main = case let { x = 1; } in x of { y -> x; };", 42, api.ErrName},
	} {
		got := byModel(t, program(t, w.text))
		if got.at != w.at || got.e != w.e {
			t.Errorf("%s: %d, %d; want %d, %d", w.text, got.at, int(got.e), w.at, int(w.e))
		}
	}
	for _, at := range []int{math.MinInt, -1, 0, 1, math.MaxInt} {
		p := api.Program{Binds: []api.Bind{bind("main", api.Exp{Kind: api.XLet, At: at})}}
		holds(t, p, answer{at: at, e: api.ErrArg})
		for _, kind := range []int{math.MinInt, -1, 0, 7, 1<<32 + 1, math.MaxInt} {
			p.Binds[0].Form.Body = api.Exp{Kind: kind, At: at}
			holds(t, p, answer{at: at, e: api.ErrArg})
			p.Binds[0].Form.Body = choice(num(1), api.Alt{Kind: kind, At: at})
			holds(t, p, answer{at: at, e: api.ErrArg})
		}
		p = api.Program{Datas: []api.Data{{Name: "C", Arity: at, At: at}}}
		want := answer{e: api.ErrMain}
		if at < 0 || at > 8 {
			want = answer{at: at, e: api.ErrArity}
		}
		holds(t, p, want)
	}
	// What is wrong is told ahead of what is too much.
	big := wide(300)
	big.Binds = append(big.Binds, api.Bind{Name: "g", At: 5, Form: api.Form{Body: api.Exp{Kind: api.XApp, Name: "no", At: 6}}})
	holds(t, big, answer{at: 6, e: api.ErrName})
	holds(t, wide(300), answer{e: api.ErrBig})
}

// R2: what a kind does not name is not looked at, however great; nothing of it is in what is told.
func TestUnnamedFields(t *testing.T) {
	junkBinds := []api.Bind{bind("q", app("nobody"))}
	junkKids := []api.Exp{app("nobody"), {Kind: 99}}
	junkAlts := []api.Alt{onAll("q", app("nobody"))}
	junkAtoms := []api.Atom{named("nobody"), number(3)}
	full := func(x api.Exp) api.Exp {
		x.At = math.MaxInt
		if x.Kind != api.XInt {
			x.N = math.MinInt64
		}
		if x.Kind == api.XInt || x.Kind == api.XLet || x.Kind == api.XCase {
			x.Name, x.Atoms = "nobody", junkAtoms
		}
		if x.Kind != api.XLet {
			x.Binds = junkBinds
		}
		if x.Kind != api.XCase {
			x.Alts = junkAlts
		}
		x.Kids = append(x.Kids[:len(x.Kids):len(x.Kids)], junkKids...)
		return x
	}
	atom := api.Atom{Name: "a", N: math.MaxInt64}
	all := onAll("z", full(con("P", named("z"), number(2))))
	all.N, all.Vars = 9, []string{"a", "a", ""}
	five := onInt(5, full(num(6)))
	five.Name, five.Vars = "nobody", []string{"a", "", "b"}
	pair := onCon("P", full(app("y", atom, number(1))), "x", "y")
	pair.N = 8
	asked := full(choice(full(prim("#add", atom, number(4))), pair, five, all))
	p := api.Program{
		Datas: []api.Data{{Name: "P", Arity: 2, At: 7}},
		Binds: []api.Bind{bind("main", full(let(asked, bind("n", full(num(3))), bind("p", full(con("P", atom, number(1)))))), "a")},
	}
	got := told(byModel(t, p).c)
	want := "fun1+0@0 | 1 let int1 int3 con0[0 1] | 4 case [0] keep [0] @4 | 1 let int4 | 2 prim1 [0 1] | 2 arms con0@5 int5@7 all@9 | " +
		"4 let int1 | 5 call 3 [0 4] | 2 let int6 | 3 ret 2 | 2 let int2 con0[1 2] | 4 ret 3"
	if got != want {
		t.Errorf("%s; want %s", got, want)
	}
}

// R3: lists without an element may be nil or empty.
func TestEmptyLists(t *testing.T) {
	p := api.Program{
		Datas: []api.Data{{Name: "N"}},
		Binds: []api.Bind{bind("main", choice(app("main"), onCon("N", con("N"))))},
	}
	q := api.Program{
		Datas: p.Datas,
		Binds: []api.Bind{{Name: "main", Form: api.Form{Args: []string{}, Body: api.Exp{
			Kind: api.XCase, Atoms: []api.Atom{}, Binds: []api.Bind{},
			Kids: []api.Exp{{Kind: api.XApp, Name: "main", Atoms: []api.Atom{}, Kids: []api.Exp{}}},
			Alts: []api.Alt{{Kind: api.ACon, Name: "N", Vars: []string{}, Body: api.Exp{Kind: api.XCon, Name: "N", Atoms: []api.Atom{}}}},
		}}}},
	}
	if a, b := byModel(t, p), byModel(t, q); !code.Same(a.c, b.c) {
		t.Errorf("%s; %s", told(a.c), told(b.c))
	}
	holds(t, api.Program{}, answer{e: api.ErrMain})
	holds(t, api.Program{Datas: []api.Data{}, Binds: []api.Bind{}}, answer{e: api.ErrMain})
}

func app(name string, atoms ...api.Atom) api.Exp {
	return api.Exp{Kind: api.XApp, Name: name, Atoms: atoms}
}
func con(name string, atoms ...api.Atom) api.Exp {
	return api.Exp{Kind: api.XCon, Name: name, Atoms: atoms}
}
func prim(name string, atoms ...api.Atom) api.Exp {
	return api.Exp{Kind: api.XPrim, Name: name, Atoms: atoms}
}
func num(n int64) api.Exp { return api.Exp{Kind: api.XInt, N: n} }
func let(body api.Exp, binds ...api.Bind) api.Exp {
	return api.Exp{Kind: api.XLet, Binds: binds, Kids: []api.Exp{body}}
}
func choice(asked api.Exp, alts ...api.Alt) api.Exp {
	return api.Exp{Kind: api.XCase, Kids: []api.Exp{asked}, Alts: alts}
}
func named(name string) api.Atom { return api.Atom{Name: name} }
func number(n int64) api.Atom    { return api.Atom{N: n} }
func bind(name string, body api.Exp, args ...string) api.Bind {
	return api.Bind{Name: name, Form: api.Form{Args: args, Body: body}}
}
func onCon(name string, body api.Exp, vars ...string) api.Alt {
	return api.Alt{Kind: api.ACon, Name: name, Vars: vars, Body: body}
}
func onInt(n int64, body api.Exp) api.Alt { return api.Alt{Kind: api.AInt, N: n, Body: body} }
func onAll(name string, body api.Exp) api.Alt {
	return api.Alt{Kind: api.AAll, Name: name, Body: body}
}
