package lazy_test

import (
	"fmt"
	"math"
	"strings"
	"testing"

	"midden/api"
)

const datas = "data Nil 0; data Cons 2; data P 2; data Box 1; "

type nums = []int64

// The document's examples.
func TestExamples(t *testing.T) {
	holdLines(t, "", []line{
		{`main = \ n -> #add n 1;`, nums{4}, "5", nil, 1},
		{"main = let { x = #emit 7; } in #add x x;", nil, "14", nums{7}, 3},
		{"main = let { x = #add x 1; } in x;", nil, "loop", nil, 3},
		{`main = \ n -> #div 10 n;`, nums{0}, "fail 40", nil, 1},
		{`main = \ a b -> #div a b;`, nums{1, 0}, "fail 40", nil, 1},
		{`data P 2; main = let { p = P 1 q; q = case p of { P a b -> a; }; } in q;`, nil, "1", nil, 5},
		{`main = \ n -> case #ref n of { r -> case #set r 9 of { u -> #get r; }; };`, nums{1}, "9", nil, 5},
		{`f = \ a b -> a; main = f 1;`, nil, "<fun>", nil, 1},
		{"main = 1;", nums{2}, "fail 43", nil, 1},
	})
	from := program(t, `data Nil 0; data Cons 2; from = \ n -> let { k = #add n 1; r = from k; } in Cons n r; main = from 1;`)
	// main, two for each Cons; k of each that is shown but the first, and r of each.
	if got, want := held(t, asked{from, "main", nil, 3}), (result{"(Cons 1 (Cons 2 (Cons _ _)))", "", 10}); got != want {
		t.Errorf("%+v, not %+v", got, want)
	}
	m := started(t, program(t, `spin = \ n -> spin n; main = spin 1;`))
	h := made(t, m, "main")
	if got, want := resultOf(m, h, 1, 100), (result{"fuel", "", 100}); got != want {
		t.Errorf("%+v, not %+v", got, want)
	}
	if got := shown(m.Show(h, 1, 100)); got != "error 9" {
		t.Error(got)
	}
}

// Each Kind of an expression, and how many steps it counts.
func TestKindsOfExpressions(t *testing.T) {
	holdLines(t, datas, []line{
		{"main = 5;", nil, "5", nil, 1},
		{"main = -9223372036854775808;", nil, "-9223372036854775808", nil, 1},
		{"main = Nil;", nil, "Nil", nil, 1},
		{"main = P 1 -2;", nil, "(P 1 -2)", nil, 1},
		{"main = P x 1; x = 7;", nil, "(P 7 1)", nil, 2},
		{"main = P x x; x = #emit 7;", nil, "(P 7 7)", nums{7}, 2},
		{"main = x; x = 5;", nil, "5", nil, 2},
		{"main = x; x = y; y = z; z = 5;", nil, "5", nil, 4},
		{`main = f; f = \ a -> a;`, nil, "<fun>", nil, 1},
		{`main = f 3; f = \ a -> a;`, nil, "3", nil, 2},
		{`main = f x; f = \ a -> a; x = 4;`, nil, "4", nil, 3},
		{`main = f x; f = \ a -> 1; x = x;`, nil, "1", nil, 2},
		{"main = #add 1 2;", nil, "3", nil, 1},
		{"main = #add x 2; x = 1;", nil, "3", nil, 2},
		{"main = let { x = 1; } in 5;", nil, "5", nil, 2},
		{"main = let { x = 1; } in let { y = 2; } in #sub y x;", nil, "1", nil, 3},
		{"main = case 1 of { 1 -> 2; };", nil, "2", nil, 3},
		{"main = case case 1 of { x -> x; } of { y -> y; };", nil, "1", nil, 5},
		{"main = case x of { y -> #add y y; }; x = #emit 3;", nil, "6", nums{3}, 4},
	})
}

// A bind of a let, for each class: what is known at once counts no step.
func TestLets(t *testing.T) {
	holdLines(t, datas, []line{
		{"main = let { x = 5; } in x;", nil, "5", nil, 2},
		{"main = let { x = P 5 6; } in x;", nil, "(P 5 6)", nil, 2},
		{`main = let { x = \ a -> 1; } in x;`, nil, "<fun>", nil, 2},
		{`main = let { x = \ a -> a; } in x 3;`, nil, "3", nil, 3},
		{"main = let { x = y; y = 5; } in x;", nil, "5", nil, 3},
		{"main = let { p = P 1 2; x = case p of { P a b -> b; }; } in x;", nil, "2", nil, 5},
		{"main = let { p = P 1 2; x = case p of { P a b -> a; }; } in #add x x;", nil, "2", nil, 5},
		{"main = let { p = 3; x = case p of { P a b -> a; }; } in x;", nil, "fail 42", nil, 4},
		{"main = let { x = #emit 1; } in 2;", nil, "2", nil, 2},
		{"main = let { x = #emit 1; } in P x x;", nil, "(P 1 1)", nums{1}, 3},
		{"main = let { x = let { y = 4; } in y; } in x;", nil, "4", nil, 4},
		{"main = let { x = case 1 of { a -> a; }; } in x;", nil, "1", nil, 5},
		// Each of a group has all others, whatever their order.
		{"main = let { a = P b c; b = P c 1; c = 7; } in a;", nil, "(P (P 7 1) 7)", nil, 2},
		{"main = let { c = 7; b = P c 1; a = P b c; } in a;", nil, "(P (P 7 1) 7)", nil, 2},
		{"main = let { a = Cons 1 b; b = Cons 2 a; } in a;", nil, "(Cons 1 (Cons 2 (Cons 1 (Cons 2 (Cons 1 (Cons 2 (Cons 1 (Cons _ _))))))))", nil, 2},
		{`main = let { even = \ n -> case n of { 0 -> 1; m -> let { k = #sub m 1; } in odd k; }; odd = \ n -> case n of { 0 -> 0; m -> let { k = #sub m 1; } in even k; }; } in even 7;`, nil, "0", nil, -1},
		{`main = let { f = \ a -> g a; g = \ a -> #add a x; x = #emit 5; } in f 1;`, nil, "6", nums{5}, 5},
		// Inner names go ahead of outer ones, and are gone behind.
		{"x = 1; main = let { x = 2; } in x;", nil, "2", nil, 2},
		{"x = 1; main = let { x = x; } in x;", nil, "loop", nil, 3},
		{"main = let { x = 1; } in let { y = x; x = 2; } in y;", nil, "2", nil, 4},
		{"main = let { x = 1; y = let { x = 2; } in x; } in P x y;", nil, "(P 1 2)", nil, 4},
		{`main = let { x = 1; f = \ x -> x; } in let { y = f 2; } in P x y;`, nil, "(P 1 2)", nil, 5},
		{`main = \ x -> let { f = \ x -> let { x = Box x; } in x; } in f x;`, nums{1}, "(Box (Box (Box (Box (Box (Box (Box (Box _))))))))", nil, 4},
		{"main = case 1 of { main -> main; };", nil, "1", nil, 3},
		{"main = case P 1 2 of { P a b -> case P 3 4 of { P b a -> P a b; }; };", nil, "(P 4 3)", nil, 5},
	})
}

// How many things a call has.
func TestCalls(t *testing.T) {
	const prelude = datas + `one = \ a -> a; two = \ a b -> P a b; three = \ a b c -> P b c; pick = \ a -> two; id = \ a -> a; num = 7; `
	holdLines(t, prelude, []line{
		{"main = one 1;", nil, "1", nil, 2},
		{"main = two 1 2;", nil, "(P 1 2)", nil, 2},
		{"main = two 1;", nil, "<fun>", nil, 1},
		{"main = three 1;", nil, "<fun>", nil, 1},
		{"main = one two 1 2;", nil, "(P 1 2)", nil, 3},
		{"main = one two 1;", nil, "<fun>", nil, 2},
		{"main = one one one one one one one one 1;", nil, "1", nil, 9},
		{"main = pick 1 2 3;", nil, "(P 2 3)", nil, 3},
		{"main = pick 1 2;", nil, "<fun>", nil, 2},
		{"main = pick 1 2 3 4;", nil, "fail 43", nil, 3},
		{"main = two 1 2 3;", nil, "fail 43", nil, 2},
		{"main = one 1 2;", nil, "fail 43", nil, 2},
		// Parts: with as many as are left, fewer and more.
		{"p = two 1; main = p 2;", nil, "(P 1 2)", nil, 3},
		{"p = three 1; main = p 2;", nil, "<fun>", nil, 2},
		{"p = three 1; q = p 2; main = q 3;", nil, "(P 2 3)", nil, 4},
		{"p = three 1; main = p 2 3;", nil, "(P 2 3)", nil, 3},
		{"p = three 1; main = p 2 3 4;", nil, "fail 43", nil, 3},
		{`p = f 1; f = \ a b -> two; main = p 2 3 4;`, nil, "(P 3 4)", nil, 4},
		{"p = three 1; q = p 2; r = p 4; main = let { x = q 3; y = r 5; } in P x y;", nil, "(P (P 2 3) (P 4 5))", nil, 9},
		{"p = two 1; main = let { a = p 2; b = p 3; } in P a b;", nil, "(P (P 1 2) (P 1 3))", nil, 7},
		// A part, and a part of it, are values of their own.
		{"p = three 1; q = p 2; main = P p q;", nil, "(P <fun> <fun>)", nil, 3},
		// What is no function.
		{"main = num 1;", nil, "fail 43", nil, 2},
		{"x = P 1 2; main = x 1;", nil, "fail 43", nil, 2},
		{"x = Nil; main = x 1;", nil, "fail 43", nil, 2},
		{"x = #ref one; main = x 1;", nil, "fail 43", nil, 2},
		{"x = #arr 1 one; main = x 1;", nil, "fail 43", nil, 2},
		{"x = #div 1 0; main = x 1;", nil, "fail 40", nil, 2},
		{"x = x 1; main = x 1;", nil, "loop", nil, 2},
		{"main = main 1;", nil, "loop", nil, 1},
		// What is called is known ahead of its things, and these only where they are needed.
		{"x = #emit 1; f = case #emit 2 of { u -> id; }; main = f x;", nil, "1", nums{2, 1}, 6},
		{"x = #div 1 0; main = one x;", nil, "fail 40", nil, 3},
		{"x = #div 1 0; k = \\ a b -> a; main = k 1 x;", nil, "1", nil, 2},
		// A function of a function, with what stood around it.
		{`add = \ a -> let { f = \ b -> #add a b; } in f; main = let { p = add 1; q = add 10; x = p 5; y = q 5; } in P x y;`, nil, "(P 6 15)", nil, -1},
		{`main = \ a b c d e f g h -> let { k = \ a -> P a b; } in k h;`, nums{1, 2, 3, 4, 5, 6, 7, 8}, "(P 8 2)", nil, 3},
		{`eight = \ a b c d e f g h -> P a h; main = eight 1 2 3 4 5 6 7 8;`, nil, "(P 1 8)", nil, 2},
		{`eight = \ a b c d e f g h -> P a h; p = eight 1 2 3 4 5 6 7; main = p 8;`, nil, "(P 1 8)", nil, 3},
		{`eight = \ a b c d e f g h -> two; p = eight 1 2 3 4 5 6 7; main = p 8 9 10;`, nil, "(P 9 10)", nil, 4},
		{`eight = \ a b c d e f g h -> P a h; p = eight 1 2 3 4 5 6 7; main = p 1 2 3 4 5 6 7 8;`, nil, "fail 43", nil, 3},
	})
}

// Of a case each alternative, the first of several that fit, and none.
func TestCases(t *testing.T) {
	const prelude = datas + `f = \ x -> case x of { Nil -> 1; Cons a b -> #add a 10; 0 -> 2; -1 -> 3; z -> P 4 z; }; ` +
		`g = \ x -> case x of { Nil -> 1; P a b -> a; 7 -> 2; }; id = \ a -> a; `
	for x, want := range map[string]string{
		"Nil": "1", "Cons 5 6": "15", "0": "2", "-1": "3", "1": "(P 4 1)", "-2": "(P 4 -2)", "P 1 2": "(P 4 (P 1 2))", "Box 1": "(P 4 (Box 1))",
		"id": "(P 4 <fun>)", "#ref 1": "(P 4 <ref 1>)", "#arr 2 1": "(P 4 [1 1])", "#arr 0 1": "(P 4 [])", "#arr 1 0": "(P 4 [0])", "9223372036854775807": "(P 4 9223372036854775807)",
		"#div 1 0": "fail 40", "x": "loop",
	} {
		holdLines(t, prelude, []line{{"x = " + x + "; main = f x;", nil, want, nil, -1}})
	}
	for x, want := range map[string]string{
		"Nil": "1", "P 5 6": "5", "7": "2", "8": "fail 42", "-7": "fail 42", "0": "fail 42", "1": "fail 42", "Cons 1 2": "fail 42", "Box 1": "fail 42",
		"id": "fail 42", "g": "fail 42", "#ref 7": "fail 42", "#arr 7 7": "fail 42", "#arr 0 0": "fail 42", "#div 1 0": "fail 40",
	} {
		holdLines(t, prelude, []line{{"x = " + x + "; main = g x;", nil, want, nil, -1}})
	}
	holdLines(t, datas, []line{
		// A value that is bound is that one: nothing of it is known once more.
		{"main = case #emit 3 of { x -> P x x; };", nil, "(P 3 3)", nums{3}, 3},
		{"main = case #ref 1 of { x -> case #set x 2 of { u -> P x u; }; };", nil, "(P <ref 2> 0)", nil, 5},
		// Fields are not looked at, unless somebody needs them.
		{"x = #div 1 0; main = case P x 1 of { P a b -> b; };", nil, "1", nil, 3},
		{"x = #div 1 0; main = case P x 1 of { P a b -> a; };", nil, "fail 40", nil, 4},
		{"main = case Box main of { Box x -> 1; };", nil, "1", nil, 3},
		{"main = case Box main of { Box x -> x; };", nil, "loop", nil, 3},
		{"main = case P 1 2 of { P b a -> P a b; };", nil, "(P 2 1)", nil, 3},
		{"main = case Nil of { Nil -> Nil; x -> 1; };", nil, "Nil", nil, 3},
		{"main = case 3 of { 1 -> 10; 2 -> 20; 3 -> 30; 4 -> 40; };", nil, "30", nil, 3},
		{"main = case 3 of { Nil -> 10; x -> x; };", nil, "3", nil, 3},
		{"main = case 0 of { Nil -> 10; Cons a b -> 20; };", nil, "fail 42", nil, 2},
		{"main = case Nil of { 0 -> 10; 1 -> 20; };", nil, "fail 42", nil, 2},
		{"main = case Cons 1 2 of { 0 -> 10; 1 -> 20; x -> 30; };", nil, "30", nil, 3},
		{"main = case #emit 1 of { 2 -> 3; };", nil, "fail 42", nums{1}, 2},
	})
}

// Sharing: what is needed is known at most once, by whatever way.
func TestOnce(t *testing.T) {
	holdLines(t, datas, []line{
		{"x = #emit 1; y = x; z = x; main = P y z;", nil, "(P 1 1)", nums{1}, 4},
		{`f = \ a -> #add a a; x = #emit 4; main = f x;`, nil, "8", nums{4}, 3},
		{"main = let { p = P x y; x = #emit 1; y = #add x 1; } in P p p;", nil, "(P (P 1 2) (P 1 2))", nums{1}, 4},
		{"main = let { x = #emit 1; a = #arr 3 x; } in a;", nil, "[1 1 1]", nums{1}, 4},
		{"main = let { x = #emit 1; r = #ref x; } in P r r;", nil, "(P <ref 1> <ref 1>)", nums{1}, 4},
		{`f = case #emit 1 of { u -> g; }; g = \ a -> #emit a; main = let { x = f 2; y = f 2; } in P x y;`, nil, "(P 2 2)", nums{1, 2, 2}, 9},
	})
	// By two handles, and by one that another is in.
	m := started(t, program(t, datas+`x = #emit 1; f = \ a -> #emit a; main = P x y; y = #add x x;`))
	for _, c := range []struct {
		name string
		with nums
		want result
	}{
		{"y", nil, result{"2", "1;", 2}},
		{"x", nil, result{"1", "1;", 2}},
		{"main", nil, result{"(P 1 2)", "1;", 3}},
		{"y", nil, result{"2", "1;", 3}},
		{"f", nums{5}, result{"5", "1;5;", 4}},
		{"f", nums{5}, result{"5", "1;5;5;", 5}}, // another call
		{"f", nil, result{"<fun>", "1;5;5;", 5}},
	} {
		h := made(t, m, c.name, c.with...)
		for range 3 {
			if got := resultOf(m, h, 8, 100); got != c.want {
				t.Errorf("%s: %+v, not %+v", c.name, got, c.want)
			}
		}
	}
}

// What needs itself.
func TestLoops(t *testing.T) {
	holdLines(t, datas, []line{
		{"main = main;", nil, "loop", nil, 1},
		{"main = #add main 1;", nil, "loop", nil, 1},
		{"main = #add 1 main;", nil, "loop", nil, 1},
		{"main = x; x = y; y = x;", nil, "loop", nil, 3},
		{"main = case main of { x -> 1; };", nil, "loop", nil, 2},
		{"main = #seq main 1;", nil, "loop", nil, 1},
		{"main = #seq 1 main;", nil, "loop", nil, 1},
		{"main = P 1 main;", nil, "(P 1 (P 1 (P 1 (P 1 (P 1 (P 1 (P 1 (P _ _))))))))", nil, 1},
		{"main = #ref main;", nil, "<ref <ref <ref <ref <ref <ref <ref <ref _>>>>>>>>", nil, 1},
		{"main = #arr 1 main;", nil, "[[[[[[[[_]]]]]]]]", nil, 1},
		{"main = let { x = P 1 y; y = #emit x; } in x;", nil, "fail 41", nil, 3},
		{"main = P 1 x; x = x;", nil, "loop", nil, 2},
		{"main = P y x; x = x; y = #emit 3;", nil, "loop", nums{3}, 3},
		{`f = \ n -> #add x n; x = f 1; main = P 1 x;`, nil, "loop", nil, 3},
		// A call that needs itself by a variable.
		{"main = case #ref 1 of { r -> let { x = #get r; } in case #set r x of { u -> x; }; };", nil, "loop", nil, 7},
		// What is in work is that only as long as it is.
		{"main = let { x = #add y 1; y = 2; z = #add x x; } in P z x;", nil, "(P 6 3)", nil, 4},
	})
}

// What fails lets all fail that is in work, and nothing else.
func TestErrorsStay(t *testing.T) {
	m := started(t, program(t, datas+`bad = #div n 0; n = #emit 6; a = #add 1 bad; b = #add a 1; c = P a 5; d = #add 1 2; e = case #ref 1 of { r -> case #emit 9 of { u -> b; }; }; l = #add m 1; m = l; k = \ x -> #add x b; main = k;`))
	for _, c := range []struct {
		name string
		with nums
		want result
	}{
		{"d", nil, result{"3", "", 1}},
		{"e", nil, result{"fail 40", "9;6;", 10}},
		{"b", nil, result{"fail 40", "9;6;", 10}},
		{"a", nil, result{"fail 40", "9;6;", 10}},
		{"bad", nil, result{"fail 40", "9;6;", 10}},
		{"n", nil, result{"6", "9;6;", 10}}, // it was known by then
		{"c", nil, result{"fail 40", "9;6;", 11}},
		{"c", nil, result{"fail 40", "9;6;", 11}},
		{"e", nil, result{"fail 40", "9;6;", 11}},
		{"k", nums{1}, result{"fail 40", "9;6;", 12}},
		{"k", nums{1}, result{"fail 40", "9;6;", 13}},
		{"m", nil, result{"loop", "9;6;", 15}},
		{"l", nil, result{"loop", "9;6;", 15}},
		{"d", nil, result{"3", "9;6;", 15}},
		{"main", nil, result{"<fun>", "9;6;", 16}},
	} {
		if got := resultOf(m, made(t, m, c.name, c.with...), 8, 100); got != c.want {
			t.Errorf("%s: %+v, not %+v", c.name, got, c.want)
		}
	}
	// A constructor with one that fails is a value all the same, to the depth that does not look at it.
	m = started(t, program(t, datas+"main = P bad 1; bad = #emit main;"))
	h := made(t, m, "main")
	for depth, want := range []string{"_", "(P _ _)", "fail 41", "fail 41"} {
		if got := shown(m.Show(h, depth, 100)); got != want {
			t.Errorf("depth %d: %s, not %s", depth, got, want)
		}
	}
	if got := shown(m.Show(h, 1, 0)); got != "(P _ _)" {
		t.Error(got)
	}
}

// Each primitive: what must be known, from the left, and its errors.
func TestPrimitives(t *testing.T) {
	const prelude = datas + `fun = \ a -> a; con = P 1 2; var = #ref 5; arr = #arr 3 8; bad = #div 1 0; one = #emit 1; two = #emit 2; part = k 1; k = \ a b -> a; self = self; `
	wrong := func(e int) string { return fmt.Sprint("fail ", e) }
	// Of two numbers.
	for name, want := range map[string]string{"#add": "3", "#sub": "-1", "#mul": "2", "#div": "0", "#rem": "1", "#eq": "0", "#lt": "1"} {
		holdLines(t, prelude, []line{
			{"main = " + name + " one two;", nil, want, nums{1, 2}, 3},
			{"main = " + name + " 1 2;", nil, want, nil, 1},
			{"main = " + name + " con bad;", nil, wrong(41), nil, 2},
			{"main = " + name + " bad con;", nil, wrong(40), nil, 2},
			{"main = " + name + " one con;", nil, wrong(41), nums{1}, 3},
			{"main = " + name + " fun two;", nil, wrong(41), nil, 1},
			{"main = " + name + " part two;", nil, wrong(41), nil, 2},
			{"main = " + name + " var two;", nil, wrong(41), nil, 2},
			{"main = " + name + " arr two;", nil, wrong(41), nil, 2},
			{"main = " + name + " two fun;", nil, wrong(41), nums{2}, 2},
			{"main = " + name + " self con;", nil, "loop", nil, 2},
			{"main = " + name + " con self;", nil, wrong(41), nil, 2},
		})
	}
	holdLines(t, prelude, []line{
		{"main = #add 9223372036854775807 1;", nil, "-9223372036854775808", nil, 1},
		{"main = #div -9223372036854775808 -1;", nil, "-9223372036854775808", nil, 1},
		{"main = #rem one 0;", nil, wrong(40), nums{1}, 2},
		{"main = #div con 0;", nil, wrong(41), nil, 2},

		{"main = #emit 3;", nil, "3", nums{3}, 1},
		{"main = #emit one;", nil, "1", nums{1, 1}, 2},
		{"main = #emit con;", nil, wrong(41), nil, 2},
		{"main = #emit fun;", nil, wrong(41), nil, 1},
		{"main = #emit bad;", nil, wrong(40), nil, 2},

		{"main = #seq one two;", nil, "2", nums{1, 2}, 3},
		{"main = #seq con two;", nil, "2", nums{2}, 3},
		{"main = #seq fun con;", nil, "(P 1 2)", nil, 2},
		{"main = #seq var arr;", nil, "[8 8 8]", nil, 3},
		{"main = #seq bad self;", nil, wrong(40), nil, 2},
		{"main = #seq one bad;", nil, wrong(40), nums{1}, 3},
		{"x = P bad 1; main = #seq x 3;", nil, "3", nil, 2}, // known, and no further

		{"main = #ref bad;", nil, wrong(40), nil, 2}, // it is shown
		{"main = case #ref bad of { r -> 1; };", nil, "1", nil, 3},
		{"main = #get var;", nil, "5", nil, 2},
		{"x = #ref one; main = #get x;", nil, "1", nums{1}, 3},
		{"x = #ref bad; main = #get x;", nil, wrong(40), nil, 3},
		{"x = #ref var; main = #get x;", nil, "<ref 5>", nil, 3},
		{"main = #get 5;", nil, wrong(44), nil, 1},
		{"main = #get con;", nil, wrong(44), nil, 2},
		{"main = #get fun;", nil, wrong(44), nil, 1},
		{"main = #get part;", nil, wrong(44), nil, 2},
		{"main = #get arr;", nil, wrong(44), nil, 2},
		{"main = #get bad;", nil, wrong(40), nil, 2},

		{"main = #set var 7;", nil, "0", nil, 2},
		{"main = case #set var bad of { u -> 7; };", nil, "7", nil, 4},
		{"main = case #set var bad of { u -> #get var; };", nil, wrong(40), nil, 5},
		{"main = case #set var two of { u -> #add u 1; };", nil, "1", nil, 4},
		{"main = case #set var two of { u -> var; };", nil, "<ref 2>", nums{2}, 5},
		{"main = #set 5 bad;", nil, wrong(44), nil, 1},
		{"main = #set arr 1;", nil, wrong(44), nil, 2},
		{"main = #set fun 1;", nil, wrong(44), nil, 1},
		{"main = #set con 1;", nil, wrong(44), nil, 2},
		{"main = #set bad 1;", nil, wrong(40), nil, 2},
		{"main = case #set var var of { u -> var; };", nil, "<ref <ref <ref <ref <ref <ref <ref <ref _>>>>>>>>", nil, 4},

		{"main = #len arr;", nil, "3", nil, 2},
		{"main = #len var;", nil, wrong(44), nil, 2},
		{"main = #len 3;", nil, wrong(44), nil, 1},
		{"main = #len con;", nil, wrong(44), nil, 2},
		{"main = #len fun;", nil, wrong(44), nil, 1},
		{"main = #len bad;", nil, wrong(40), nil, 2},
	})
	holdLines(t, prelude, []line{
		{"main = #arr con bad;", nil, wrong(41), nil, 2},
		{"main = #arr arr 1;", nil, wrong(41), nil, 2},
		{"main = #arr bad con;", nil, wrong(40), nil, 2},
		{"main = #arr two one;", nil, "[1 1]", nums{2, 1}, 3},
		{"main = case #arr two bad of { a -> #len a; };", nil, "2", nums{2}, 4},

		{"main = #at arr 0;", nil, "8", nil, 2},
		{"main = #at arr two;", nil, "8", nums{2}, 3},
		{"x = #arr 2 bad; main = #at x 1;", nil, wrong(40), nil, 3},
		{"main = #at 1 bad;", nil, wrong(44), nil, 1},
		{"main = #at var bad;", nil, wrong(44), nil, 2},
		{"main = #at con 9;", nil, wrong(44), nil, 2},
		{"main = #at fun 0;", nil, wrong(44), nil, 1},
		{"main = #at bad con;", nil, wrong(40), nil, 2},
		{"main = #at arr con;", nil, wrong(41), nil, 3},
		{"main = #at arr arr;", nil, wrong(41), nil, 2},
		{"main = #at arr bad;", nil, wrong(40), nil, 3},
		{"main = #at arr 3;", nil, wrong(45), nil, 2},
		{"main = #at arr -1;", nil, wrong(45), nil, 2},

		{"main = #put arr 0 bad;", nil, "0", nil, 2},
		{"main = case #put arr 0 bad of { u -> #at arr 1; };", nil, "8", nil, 4},
		{"main = case #put arr 0 bad of { u -> #at arr 0; };", nil, wrong(40), nil, 5},
		{"main = case #put arr two one of { u -> arr; };", nil, "[8 8 1]", nums{2, 1}, 6},
		{"main = case #put arr 1 arr of { u -> #at arr 1; };", nil, "[8 [8 [8 [8 [8 [8 [8 [_ _ _] 8] 8] 8] 8] 8] 8] 8]", nil, 4},
		{"main = #put 1 bad bad;", nil, wrong(44), nil, 1},
		{"main = #put var bad bad;", nil, wrong(44), nil, 2},
		{"main = #put con bad bad;", nil, wrong(44), nil, 2},
		{"main = #put bad con bad;", nil, wrong(40), nil, 2},
		{"main = #put arr con bad;", nil, wrong(41), nil, 3},
		{"main = #put arr bad con;", nil, wrong(40), nil, 3},
		{"main = #put arr 3 bad;", nil, wrong(45), nil, 2},
		{"main = #put arr -1 bad;", nil, wrong(45), nil, 2},
	})
}

// Arrays at their limits.
func TestArrays(t *testing.T) {
	for n, want := range map[int64]string{
		0: "[]", 1: "[4]", 2: "[4 4]", -1: "fail 46", 1025: "fail 46", math.MaxInt64: "fail 46", math.MinInt64: "fail 46", 1 << 32: "fail 46", 1<<32 + 1: "fail 46", -1 << 32: "fail 46",
		1024: "[" + strings.Repeat("4 ", 199) + strings.Repeat("_ ", 824) + "_]",
	} {
		holdLines(t, "", []line{{`main = \ n -> #arr n 4;`, nums{n}, want, nil, 1}})
		if n > 0 && n <= 1024 || n == 0 {
			holdLines(t, "", []line{{`main = \ n -> case #arr n 4 of { a -> #len a; };`, nums{n}, fmt.Sprint(n), nil, 3}})
		}
	}
	for _, many := range []int64{0, 1, 2, 1023, 1024} {
		for _, i := range []int64{0, 1, many / 2, many - 2, many - 1, many, many + 1, -1, 1024, 1 << 32, 1<<32 + many - 1, -1 << 32, math.MaxInt64, math.MinInt64} {
			at, put := "7", "9"
			if i < 0 || i >= many {
				at, put = "fail 45", "fail 45"
			}
			holdLines(t, "", []line{
				{`main = \ n i -> case #arr n 7 of { a -> #at a i; };`, nums{many, i}, at, nil, 3},
				{`main = \ n i -> case #arr n 7 of { a -> case #put a i 9 of { u -> #at a i; }; };`, nums{many, i}, put, nil, -1},
			})
		}
	}
	holdLines(t, datas, []line{
		{"main = case #arr 4 7 of { a -> case #put a 0 1 of { u -> case #put a 3 2 of { v -> case #put a 0 3 of { w -> a; }; }; }; };", nil, "[3 7 7 2]", nil, 9},
		// Each array has items of its own.
		{"main = case #arr 2 0 of { a -> case #arr 2 a of { b -> case #put b 0 5 of { u -> case #put a 1 6 of { v -> P a b; }; }; }; };", nil, "(P [0 6] [5 [0 6]])", nil, 9},
		{`new = \ n -> #arr n 1; main = case new 2 of { a -> case new 2 of { b -> case #put a 0 8 of { u -> P a b; }; }; };`, nil, "(P [8 1] [1 1])", nil, 9},
		{"main = case #arr 2 0 of { a -> case #put a 1 a of { u -> a; }; };", nil, "[0 [0 [0 [0 [0 [0 [0 [_ _]]]]]]]]", nil, 5},
	})
}

// What is shown is as it is when its turn comes; an array's items are those that it had when it was known.
func TestShownWhileThingsChange(t *testing.T) {
	const prelude = datas + "r = #ref 1; a = #arr 3 5; "
	holdLines(t, prelude, []line{
		{"s = #set r 2; main = P r s;", nil, "(P <ref 1> 0)", nil, 3},
		{"s = #set r 2; main = P s r;", nil, "(P 0 <ref 2>)", nil, 3},
		{"s = #put a 1 6; main = P a s;", nil, "(P [5 5 5] 0)", nil, 3},
		{"s = #put a 1 6; main = P s a;", nil, "(P 0 [5 6 5])", nil, 3},
		// The first item puts another one in the place of the second, which was there when the array was known.
		{"s = #put a 1 6; main = case #put a 0 s of { u -> P a a; };", nil, "(P [0 5 5] [0 6 5])", nil, 5},
		// The second item is a variable, which holds another thing when its turn comes.
		{"s = #set r 7; main = case #put a 0 s of { u -> case #put a 1 r of { v -> a; }; };", nil, "[0 <ref 7> 5]", nil, 8},
		// What a variable holds when it is known, though that sets another.
		{"s = #set r 7; main = case #set r s of { u -> P r r; };", nil, "(P <ref 0> <ref 7>)", nil, 5},
	})
	m := started(t, program(t, prelude+`set = \ n -> #set r n; put = \ i n -> #put a i n; main = P r a;`))
	h := made(t, m, "main")
	for _, c := range []struct {
		name string
		with nums
		want string
	}{
		{"main", nil, "(P <ref 1> [5 5 5])"},
		{"set", nums{4}, "(P <ref 4> [5 5 5])"},
		{"put", nums{0, 7}, "(P <ref 4> [7 5 5])"},
		{"put", nums{2, 8}, "(P <ref 4> [7 5 8])"},
		{"put", nums{3, 8}, "(P <ref 4> [7 5 8])"},
		{"set", nums{9}, "(P <ref 9> [7 5 8])"},
	} {
		g := made(t, m, c.name, c.with...)
		for range 2 { // a call that was made is not made again
			m.Show(g, 1, 100)
			if got := shown(m.Show(h, 8, 100)); got != c.want {
				t.Errorf("%s %d: %s, not %s", c.name, c.with, got, c.want)
			}
		}
	}
}

// Depths.
func TestDepths(t *testing.T) {
	from := datas + `from = \ n -> let { k = #add n 1; r = from k; } in Cons n r; main = from 1;`
	p := program(t, from)
	m := started(t, p)
	h := made(t, m, "main")
	want, steps := "_", 0
	for depth := range 9 {
		if got := held(t, asked{p, "main", nil, depth}); got.told != want {
			t.Errorf("depth %d: %s, not %s", depth, got.told, want)
		}
		// Deeper and deeper by one machine: only what is new counts.
		if got := resultOf(m, h, depth, 100); got.told != want || got.steps < steps {
			t.Errorf("depth %d: %+v, not %s", depth, got, want)
		} else {
			steps = got.steps
		}
		if depth == 0 {
			want = "(Cons _ _)"
		} else {
			want = strings.Replace(want, "(Cons _ _)", fmt.Sprintf("(Cons %d (Cons _ _))", depth), 1)
		}
	}
	for depth := 8; depth >= 0; depth-- {
		if got := resultOf(m, h, depth, 0); got.told == "fuel" || got.steps != steps {
			t.Errorf("depth %d: %+v", depth, got)
		}
	}
	// To the depth 0 nothing is known: neither what fails nor what never ends.
	for _, s := range []string{"main = #div 1 0;", "main = main;", `f = \ n -> f n; main = f 1;`, "main = #emit 1;"} {
		if got, want := held(t, asked{program(t, s), "main", nil, 0}), (result{"_", "", 0}); got != want {
			t.Errorf("%s: %+v", s, got)
		}
	}
}

// The two hundredth thing that is shown.
func TestTwoHundredThings(t *testing.T) {
	text := func(many int64, puts string) string {
		return fmt.Sprintf("out = #emit 1; bad = #div 1 0; a = #arr %d 3; main = %s;", many, puts)
	}
	row := func(shown, cut int) string {
		return "[" + strings.TrimSuffix(strings.Repeat("3 ", shown)+strings.Repeat("_ ", cut), " ") + "]"
	}
	// The array counts too.
	holdLines(t, "", []line{
		{text(198, "a"), nil, row(198, 0), nil, 2},
		{text(199, "a"), nil, row(199, 0), nil, 2},
		{text(200, "a"), nil, row(199, 1), nil, 2},
		{text(1024, "a"), nil, row(199, 825), nil, 2},
		{text(300, "case #put a 198 out of { u -> a; }"), nil, strings.Replace(row(199, 101), "3 _", "1 _", 1), nums{1}, 5},
		{text(300, "case #put a 199 out of { u -> a; }"), nil, row(199, 101), nil, 4},
		{text(300, "case #put a 198 bad of { u -> a; }"), nil, "fail 40", nil, 5},
		{text(300, "case #put a 199 bad of { u -> a; }"), nil, row(199, 101), nil, 4},
	})
	// From the left, the deeper ones first: 1 and 1 and 100 items, then 1 and 97 of the second.
	holdLines(t, datas, []line{
		{"a = #arr 100 3; main = P a a;", nil, "(P " + row(100, 0) + " " + row(97, 3) + ")", nil, 2},
		{"a = #arr 198 3; b = #emit 5; main = P a b;", nil, "(P " + row(198, 0) + " _)", nil, 2},
		{"a = #arr 197 3; b = #emit 5; main = P a b;", nil, "(P " + row(197, 0) + " 5)", nums{5}, 3},
		{"a = #arr 197 3; b = #arr 2 4; main = P a b;", nil, "(P " + row(197, 0) + " [_ _])", nil, 3},
	})
	// What is cut by its depth does not count.
	p := program(t, "b = #arr 100 4; main = #arr 150 b;")
	if got, want := held(t, asked{p, "main", nil, 2}).told, "["+strings.TrimSuffix(strings.Repeat("["+strings.TrimSuffix(strings.Repeat("_ ", 100), " ")+"] ", 150), " ")+"]"; got != want {
		t.Errorf("%.100s", got)
	}
	// Each call counts anew.
	m := started(t, program(t, text(300, "a")))
	h := made(t, m, "main")
	for range 3 {
		if got := shown(m.Show(h, 2, 10)); got != row(199, 101) {
			t.Error(got)
		}
	}
}

// P11.4.
func TestOutAndSteps(t *testing.T) {
	m := started(t, program(t, `f = \ n -> #emit n; main = let { a = #emit 1; b = #emit -2; } in #sub b a;`))
	if len(m.Out()) != 0 || m.Steps() != 0 {
		t.Error("something was done")
	}
	for _, c := range []struct {
		name string
		with nums
		want result
	}{
		{"main", nil, result{"-3", "-2;1;", 4}},
		{"f", nums{math.MinInt64}, result{"-9223372036854775808", "-2;1;-9223372036854775808;", 5}},
		{"f", nums{math.MaxInt64}, result{"9223372036854775807", "-2;1;-9223372036854775808;9223372036854775807;", 6}},
		{"main", nil, result{"-3", "-2;1;-9223372036854775808;9223372036854775807;", 6}},
		{"f", nums{0, 0}, result{"fail 43", "-2;1;-9223372036854775808;9223372036854775807;0;", 7}},
	} {
		if got := resultOf(m, made(t, m, c.name, c.with...), 8, 100); got != c.want {
			t.Errorf("%s: %+v, not %+v", c.name, got, c.want)
		}
	}
	held(t, asked{program(t, `f = \ n -> case n of { 0 -> 0; m -> case #emit m of { u -> let { k = #sub m 1; } in f k; }; }; main = f 30;`), "main", nil, 1})
}

// P11.5: each amount of fuel.
func TestEachAmountOfFuel(t *testing.T) {
	p := program(t, datas+`from = \ n -> let { k = #add n 1; r = from k; } in case #emit n of { u -> Cons u r; }; sum = \ l n -> case n of { 0 -> 0; m -> case l of { Cons h t -> let { k = #sub n 1; s = sum t k; } in #add h s; }; }; `+
		`main = let { l = from 1; s = sum l 5; d = #div s 0; } in P s l; bad = let { l = from 1; s = sum l 5; } in #div s 0; loop = let { l = from 1; s = sum l x; x = #add s 1; } in P 1 s;`)
	for name, told := range map[string]string{"main": "(P 15 (Cons 1 (Cons 2 (Cons _ _))))", "bad": "fail 40", "loop": "loop"} {
		whole := asked{p, name, nil, 4}.on(t, started(t, p), api.MaxFuel)
		if whole.told != told {
			t.Errorf("%s: %+v", name, whole)
		}
		for fuel := range whole.steps + 5 {
			got := asked{p, name, nil, 4}.on(t, started(t, p), fuel)
			if fuel >= whole.steps && got != whole {
				t.Errorf("%s with %d: %+v, not %+v", name, fuel, got, whole)
			}
			if fuel < whole.steps && (got.told != "fuel" || got.steps != fuel || !strings.HasPrefix(whole.out, got.out)) {
				t.Errorf("%s with %d: %+v, of %+v", name, fuel, got, whole)
			}
		}
	}
	// Fuel is for each Show: what was counted ahead is not taken from it.
	m := started(t, program(t, `f = \ n -> case n of { m -> #add m m; }; main = f 1;`))
	for i := range 5 {
		if got, want := resultOf(m, made(t, m, "f", int64(i)), 1, 3), (result{fmt.Sprint(2 * i), "", 3 * (i + 1)}); got != want {
			t.Errorf("%+v, not %+v", got, want)
		}
	}
	if got := resultOf(m, made(t, m, "f", 1), 1, 2); got != (result{"fuel", "", 17}) {
		t.Errorf("%+v", got)
	}
}
