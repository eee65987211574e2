package tree_test

import (
	"fmt"
	"math"
	"math/rand"
	"reflect"
	"slices"
	"strconv"
	"strings"
	"testing"

	"midden/api"
	"midden/lex"
	"midden/tree"
)

// The grammar as the chapter has it, away from the program's way through it: each rule's ways, a way's symbols with
// blanks between them. A symbol in capitals is a token of that kind; a rule's name is that rule; all else stands as
// it is. An expression within an expression is written exp+.
var grammar = rules(map[string][]string{
	"program": {"datas binds"},
	"datas":   {"", "data CON INT ; datas"},
	"binds":   {"", "bind binds"},
	"bind":    {"NAME = form ;"},
	"form":    {`\ NAME names -> exp`, "exp"},
	"names":   {"", "NAME names"},
	"exp": {
		"let { bind+ binds+ } in exp+",
		"case exp+ of { alt+ alts+ }",
		"NAME atoms", "CON atoms", "PRIM atoms", "INT", "( exp+ )",
	},
	"atoms": {"", "atom atoms"},
	"atom":  {"NAME", "INT"},
	"alts":  {"", "alt alts"},
	"alt":   {"CON names -> exp ;", "INT -> exp ;", "NAME -> exp ;"},
})

func rules(texts map[string][]string) map[string][][]string {
	all := map[string][][]string{}
	for rule, ways := range texts {
		for _, way := range ways {
			all[rule] = append(all[rule], strings.Fields(way))
		}
	}
	return all
}

var kindOf = map[string]int{"NAME": api.TName, "CON": api.TCon, "PRIM": api.TPrim, "INT": api.TInt}

// A row of symbols that are due: one, how deep the expression is that it is or that it has next, and those behind it.
type row struct {
	text string
	deep int
	rest *row
}

// unfold takes rules apart till each row is at its end or begins with a token. Rows that begin with an expression that
// is too deep are counted instead.
func unfold(r *row, out *[]*row, tooDeep *int) {
	if r == nil {
		*out = append(*out, r)
		return
	}
	ways, isRule := grammar[r.text]
	if !isRule {
		*out = append(*out, r)
		return
	}
	if r.text == "exp" && r.deep > 60 {
		*tooDeep++
		return
	}
	for _, way := range ways {
		next := r.rest
		for _, text := range slices.Backward(way) {
			bare, inner := strings.CutSuffix(text, "+")
			deep := r.deep
			if inner {
				deep++
			}
			next = &row{bare, deep, next}
		}
		unfold(next, out, tooDeep)
	}
}

func fits(r *row, t api.Token) bool {
	if r == nil {
		return false
	}
	if kind, ok := kindOf[r.text]; ok {
		return t.Kind == kind
	}
	return (t.Kind == api.TSign || t.Kind == api.TWord) && t.Text == r.text
}

// model says whether Parse answers a tree, and if not, the place and the error: it follows all rows that may be due.
func model(s string) (int, api.Errno) {
	tokens, at, e := lex.Scan(s)
	if e != api.OK {
		return at, e
	}
	rows := []*row{{"program", 1, nil}}
	for i := 0; ; i++ {
		var due, left []*row
		tooDeep := 0
		for _, r := range rows {
			unfold(r, &due, &tooDeep)
		}
		if i == len(tokens) && slices.Contains(due, nil) {
			return 0, api.OK
		}
		if i == len(tokens) {
			return len(s), api.ErrSyntax
		}
		for _, r := range due {
			if fits(r, tokens[i]) {
				left = append(left, r.rest)
			}
		}
		if len(left) == 0 && tooDeep > 0 {
			return tokens[i].At, api.ErrNest
		}
		if len(left) == 0 {
			return tokens[i].At, api.ErrSyntax
		}
		rows = left
	}
}

func short(s string) string {
	if len(s) > 160 {
		s = s[:120] + " .. " + s[len(s)-30:]
	}
	return strconv.Quote(s)
}

func isZero(p api.Program) bool { return reflect.DeepEqual(p, api.Program{}) }

// wantFault holds Parse to a place and an error, and to the zero program beside it.
func wantFault(t *testing.T, s string, at int, e api.Errno) {
	t.Helper()
	p, gotAt, got := tree.Parse(s)
	if gotAt != at || got != e || !isZero(p) {
		t.Errorf("Parse of %s: %v, %d, %d; want nothing, %d, %d", short(s), p, gotAt, int(got), at, int(e))
	}
}

// byModel holds Parse to the grammar: a fault where the model has it, or a tree where it has none.
func byModel(t *testing.T, s string) {
	t.Helper()
	at, e := model(s)
	if e != api.OK {
		wantFault(t, s, at, e)
		return
	}
	if _, at, e := tree.Parse(s); at != 0 || e != api.OK {
		t.Errorf("Parse of %s: %d, %d; want a tree", short(s), at, int(e))
	}
}

// plain turns empty lists into nil ones, so that programs can be held against each other with all their fields.
func plain(p api.Program) api.Program {
	p.Datas = slices.Clone(p.Datas)
	if len(p.Datas) == 0 {
		p.Datas = nil
	}
	p.Binds = plainBinds(p.Binds)
	return p
}

func plainBinds(l []api.Bind) []api.Bind {
	var all []api.Bind
	for _, b := range l {
		b.Form.Args = append([]string(nil), b.Form.Args...)
		b.Form.Body = plainExp(b.Form.Body)
		all = append(all, b)
	}
	return all
}

func plainExp(x api.Exp) api.Exp {
	x.Atoms = append([]api.Atom(nil), x.Atoms...)
	x.Binds = plainBinds(x.Binds)
	var kids []api.Exp
	for _, k := range x.Kids {
		kids = append(kids, plainExp(k))
	}
	x.Kids = kids
	var alts []api.Alt
	for _, a := range x.Alts {
		a.Vars = append([]string(nil), a.Vars...)
		a.Body = plainExp(a.Body)
		alts = append(alts, a)
	}
	x.Alts = alts
	return x
}

// wantTree holds Parse to a tree, with all its places, and with nothing in fields that kinds do not name.
func wantTree(t *testing.T, s string, want api.Program) {
	t.Helper()
	p, at, e := tree.Parse(s)
	if at != 0 || e != api.OK || !reflect.DeepEqual(plain(p), plain(want)) {
		t.Errorf("Parse of %s: %+v, %d, %d; want %+v", short(s), p, at, int(e), want)
	}
}

func app(at int, name string, atoms ...api.Atom) api.Exp {
	return api.Exp{Kind: api.XApp, At: at, Name: name, Atoms: atoms}
}
func con(at int, name string, atoms ...api.Atom) api.Exp {
	return api.Exp{Kind: api.XCon, At: at, Name: name, Atoms: atoms}
}
func prim(at int, name string, atoms ...api.Atom) api.Exp {
	return api.Exp{Kind: api.XPrim, At: at, Name: name, Atoms: atoms}
}
func num(at int, n int64) api.Exp { return api.Exp{Kind: api.XInt, At: at, N: n} }
func let(at int, body api.Exp, binds ...api.Bind) api.Exp {
	return api.Exp{Kind: api.XLet, At: at, Binds: binds, Kids: []api.Exp{body}}
}
func choose(at int, asked api.Exp, alts ...api.Alt) api.Exp {
	return api.Exp{Kind: api.XCase, At: at, Kids: []api.Exp{asked}, Alts: alts}
}
func bind(at int, name string, body api.Exp, args ...string) api.Bind {
	return api.Bind{Name: name, At: at, Form: api.Form{Args: args, Body: body}}
}
func named(name string) api.Atom { return api.Atom{Name: name} }
func atom(n int64) api.Atom      { return api.Atom{N: n} }

// of is the program of one bind, f, that begins its text, with a body.
func of(body api.Exp) api.Program { return api.Program{Binds: []api.Bind{bind(0, "f", body)}} }

// P6.1: the tree.

func TestParseExamples(t *testing.T) {
	s := `data C 1; f = \ x -> case x of { C y -> y; 3 -> g x 1; z -> C z; };`
	wantTree(t, s, api.Program{
		Datas: []api.Data{{Name: "C", Arity: 1, At: 5}},
		Binds: []api.Bind{bind(10, "f", choose(21, app(26, "x"),
			api.Alt{Kind: api.ACon, At: 33, Name: "C", Vars: []string{"y"}, Body: app(40, "y")},
			api.Alt{Kind: api.AInt, At: 43, N: 3, Body: app(48, "g", named("x"), atom(1))},
			api.Alt{Kind: api.AAll, At: 55, Name: "z", Body: con(60, "C", named("z"))},
		), "x")},
	})
	wantFault(t, "f = x", 5, api.ErrSyntax)
	wantFault(t, "main = (1;", 9, api.ErrSyntax)
	wantFault(t, `f = \ -> 1;`, 6, api.ErrSyntax)
}

func TestParseEachWay(t *testing.T) {
	for _, s := range []string{"", " ", "\n", "-- nothing", "\t\r\n -- a\n--"} {
		wantTree(t, s, api.Program{})
	}
	wantTree(t, "data C 0;", api.Program{Datas: []api.Data{{Name: "C", Arity: 0, At: 5}}})
	wantTree(t, "data Ab_1 -7;data C 9223372036854775807;data C -9223372036854775808;", api.Program{Datas: []api.Data{
		{Name: "Ab_1", Arity: -7, At: 5}, {Name: "C", Arity: math.MaxInt64, At: 18}, {Name: "C", Arity: math.MinInt64, At: 45}}})
	wantTree(t, "a=b;a=c;", api.Program{Binds: []api.Bind{bind(0, "a", app(2, "b")), bind(4, "a", app(6, "c"))}})
	wantTree(t, "f=x;", of(app(2, "x")))
	wantTree(t, "f=x y 1 -2 z;", of(app(2, "x", named("y"), atom(1), atom(-2), named("z"))))
	wantTree(t, "f=X;", of(con(2, "X")))
	wantTree(t, "f=X 0 y;", of(con(2, "X", atom(0), named("y"))))
	wantTree(t, "f=#x;", of(prim(2, "#x")))
	wantTree(t, "f=#x y 7;", of(prim(2, "#x", named("y"), atom(7))))
	wantTree(t, "f=0;", of(num(2, 0)))
	wantTree(t, "f=-9223372036854775808;", of(num(2, math.MinInt64)))
	wantTree(t, "f=9223372036854775807;", of(num(2, math.MaxInt64)))
	wantTree(t, "f=007;", of(num(2, 7)))
	wantTree(t, "f=x 9223372036854775807 -9223372036854775808 x;", of(app(2, "x", atom(math.MaxInt64), atom(math.MinInt64), named("x"))))
	wantTree(t, "f=(x);", of(app(3, "x")))
	wantTree(t, "f=( ( (X 1)) );", of(con(7, "X", atom(1))))
	wantTree(t, "f=(let{a=1;}in a);", of(let(3, app(15, "a"), bind(7, "a", num(9, 1)))))
	wantTree(t, "f=(case(1)of{2->(3);});", of(choose(3, num(8, 1), api.Alt{Kind: api.AInt, At: 13, N: 2, Body: num(17, 3)})))
	wantTree(t, "f=\\a->1;", api.Program{Binds: []api.Bind{bind(0, "f", num(6, 1), "a")}})
	wantTree(t, "f=\\a b a->(1);", api.Program{Binds: []api.Bind{bind(0, "f", num(11, 1), "a", "b", "a")}})
	wantTree(t, "f=let{a=1;b=\\c d->2;}in 3;", of(let(2, num(24, 3), bind(6, "a", num(8, 1)), bind(10, "b", num(18, 2), "c", "d"))))
	wantTree(t, "f=case x y of{A->1;B c d->2;-3->4;e->5;};", of(choose(2, app(7, "x", named("y")),
		api.Alt{Kind: api.ACon, At: 14, Name: "A", Body: num(17, 1)},
		api.Alt{Kind: api.ACon, At: 19, Name: "B", Vars: []string{"c", "d"}, Body: num(26, 2)},
		api.Alt{Kind: api.AInt, At: 28, N: -3, Body: num(32, 4)},
		api.Alt{Kind: api.AAll, At: 34, Name: "e", Body: num(37, 5)})))
}

// What only the rules of chapter 9 refuse is a program here.
func TestParseAsksNoMore(t *testing.T) {
	for _, s := range []string{
		"data C 9; data C -1;", "f = g; f = h;", `f = \ x x -> y;`, `f = \ a b c d e g h i j k -> 1;`,
		"f = g 1 2 3 4 5 6 7 8 9 10 11;", "f = C 1; ", "f = #no 1;", "f = case 1 of { x -> 1; 2 -> 1; x -> 2; };",
		"f = let { a = 1; a = 2; } in b;", "f = case 1 of { C x x -> 1; C -> 1; 3 -> 1; 3 -> 1; };",
	} {
		byModel(t, s)
		if _, _, e := tree.Parse(s); e != api.OK {
			t.Errorf("Parse of %s: %d", short(s), int(e))
		}
	}
	long := strings.Repeat("a", api.MaxName)
	wantTree(t, long+"="+long+";", api.Program{Binds: []api.Bind{bind(0, long, app(33, long))}})
}

// A maker writes a random program, and has its tree at hand, as far as the writing goes.
type maker struct {
	*rand.Rand
	text strings.Builder
	gaps []string
}

var someGaps = []string{" ", "\n", "\t", "\r", "  ", " -- a (\n", "--\n", "-- let { x = \\ ;\n\n", " --->\n\t"}

// put writes a token behind a gap, and tells its place.
func (m *maker) put(text string) int {
	m.text.WriteString(m.gaps[m.Intn(len(m.gaps))])
	at := m.text.Len()
	m.text.WriteString(text)
	return at
}

var (
	someNames  = []string{"a", "b", "x1", "in_", "lets", "ofA", "dataX", "case1"}
	someCons   = []string{"A", "B", "Case", "Let", "In9_"}
	somePrims  = []string{"#add", "#let", "#a_1", "#in"}
	someNumber = []int64{0, 1, -1, 7, 255, 1 << 31, -1 << 31, math.MaxInt64, math.MinInt64, math.MaxInt64 - 1}
)

func (m *maker) name() (string, int) {
	s := someNames[m.Intn(len(someNames))]
	return s, m.put(s)
}

func (m *maker) number() (int64, int) {
	n := someNumber[m.Intn(len(someNumber))]
	return n, m.put(strconv.FormatInt(n, 10))
}

func (m *maker) atoms() []api.Atom {
	var l []api.Atom
	for range m.Intn(4) {
		if m.Intn(2) == 0 {
			s, _ := m.name()
			l = append(l, api.Atom{Name: s})
		} else {
			n, _ := m.number()
			l = append(l, api.Atom{N: n})
		}
	}
	return l
}

func (m *maker) exp(room int) api.Exp {
	way := m.Intn(9)
	if room <= 0 && way > 3 {
		way = m.Intn(4)
	}
	switch way {
	case 0:
		s, at := m.name()
		return api.Exp{Kind: api.XApp, At: at, Name: s, Atoms: m.atoms()}
	case 1:
		s := someCons[m.Intn(len(someCons))]
		at := m.put(s)
		return api.Exp{Kind: api.XCon, At: at, Name: s, Atoms: m.atoms()}
	case 2:
		s := somePrims[m.Intn(len(somePrims))]
		at := m.put(s)
		return api.Exp{Kind: api.XPrim, At: at, Name: s, Atoms: m.atoms()}
	case 3:
		n, at := m.number()
		return api.Exp{Kind: api.XInt, At: at, N: n}
	case 4, 5:
		return m.let(room - 1)
	case 6, 7:
		return m.choice(room - 1)
	}
	m.put("(")
	x := m.exp(room - 1)
	m.put(")")
	return x
}

func (m *maker) let(room int) api.Exp {
	x := api.Exp{Kind: api.XLet, At: m.put("let")}
	m.put("{")
	for range 1 + m.Intn(3) {
		x.Binds = append(x.Binds, m.bind(room))
	}
	m.put("}")
	m.put("in")
	x.Kids = []api.Exp{m.exp(room)}
	return x
}

func (m *maker) choice(room int) api.Exp {
	x := api.Exp{Kind: api.XCase, At: m.put("case")}
	x.Kids = []api.Exp{m.exp(room)}
	m.put("of")
	m.put("{")
	for range 1 + m.Intn(3) {
		x.Alts = append(x.Alts, m.alt(room))
	}
	m.put("}")
	return x
}

func (m *maker) alt(room int) api.Alt {
	var a api.Alt
	switch m.Intn(3) {
	case 0:
		a.Kind = api.ACon
		a.Name = someCons[m.Intn(len(someCons))]
		a.At = m.put(a.Name)
		for range m.Intn(4) {
			s, _ := m.name()
			a.Vars = append(a.Vars, s)
		}
	case 1:
		a.Kind = api.AInt
		a.N, a.At = m.number()
	case 2:
		a.Kind = api.AAll
		a.Name, a.At = m.name()
	}
	m.put("->")
	a.Body = m.exp(room)
	m.put(";")
	return a
}

func (m *maker) bind(room int) api.Bind {
	var b api.Bind
	b.Name, b.At = m.name()
	m.put("=")
	if m.Intn(2) == 0 {
		m.put(`\`)
		for range 1 + m.Intn(3) {
			s, _ := m.name()
			b.Form.Args = append(b.Form.Args, s)
		}
		m.put("->")
	}
	b.Form.Body = m.exp(room)
	m.put(";")
	return b
}

func (m *maker) data() api.Data {
	m.put("data")
	s := someCons[m.Intn(len(someCons))]
	at := m.put(s)
	n, _ := m.number()
	m.put(";")
	return api.Data{Name: s, Arity: int(n), At: at}
}

func (m *maker) program(datas, binds, room int) (string, api.Program) {
	m.text.Reset()
	var p api.Program
	for range datas {
		p.Datas = append(p.Datas, m.data())
	}
	for range binds {
		p.Binds = append(p.Binds, m.bind(room))
	}
	m.text.WriteString(m.gaps[m.Intn(len(m.gaps))])
	return m.text.String(), p
}

func newMaker(seed int64, gaps []string) *maker {
	return &maker{Rand: rand.New(rand.NewSource(seed)), gaps: gaps}
}

func TestParseRandomPrograms(t *testing.T) {
	m := newMaker(1, someGaps)
	for range 3000 {
		s, p := m.program(m.Intn(3), m.Intn(4), m.Intn(5))
		if len(s) > api.MaxBytes {
			wantFault(t, s, 0, api.ErrBig)
			continue
		}
		wantTree(t, s, p)
	}
}

// P6.1: the first fault.

// One token of each kind, and each sign and word.
var allTokens = []string{"x", "C", "#p", "7", "->", "=", `\`, "{", "}", ";", "(", ")", "let", "in", "case", "of", "data"}

var someTexts = []string{
	"", "data C 1 ;", "data C 1 ; data D 2 ;", "f = 1 ;", "f = x ;", "f = x y 2 ; g = D 1 y ; h = #p 3 z ;",
	`f = \ x -> x ;`, `f = \ x y z -> 1 ;`, "f = ( 1 ) ;", "f = ( ( x y ) ) ;", "data C 1 ; f = C 1 ;",
	"f = let { a = 1 ; } in a ;", `f = let { a = \ b -> b 1 ; c = ( 2 ) ; } in ( a c ) ;`,
	"f = case x of { C -> 1 ; } ;", "f = case x 1 of { C y -> y 2 ; 3 -> D ; z -> ( z ) ; } ;",
	"f = let { a = case 1 of { 2 -> 3 ; } ; } in let { b = 4 ; } in case ( b ) of { C d e -> let { g = 5 ; } in g ; } ;",
	`data C 1 ; f = \ x -> case x of { C y -> y ; 3 -> g x 1 ; z -> C z ; } ; main = f 2 ;`,
}

// changed tells a text's tokens with one left out, one more, or another in its place, at each place.
func changed(text string, f func(s string)) {
	words := strings.Fields(text)
	for i := 0; i <= len(words); i++ {
		for _, more := range allTokens {
			f(strings.Join(slices.Concat(words[:i], []string{more}, words[i:]), " "))
			if i < len(words) {
				f(strings.Join(slices.Concat(words[:i], []string{more}, words[i+1:]), " "))
			}
		}
		if i < len(words) {
			f(strings.Join(slices.Delete(slices.Clone(words), i, i+1), " "))
		}
	}
}

func TestParseOneTokenOff(t *testing.T) {
	for _, text := range someTexts {
		byModel(t, text)
		if _, e := model(text); e != api.OK {
			t.Errorf("the model refuses %s", short(text))
		}
		changed(text, func(s string) { byModel(t, s) })
	}
}

func TestParseTwoTokensOff(t *testing.T) {
	for _, text := range []string{"data C 1 ;", `f = \ x -> x ;`, "f = ( x ) ;"} {
		changed(text, func(s string) {
			changed(s, func(s string) { byModel(t, s) })
		})
	}
}

// All rows of up to four tokens, by themselves and where an expression is due.
func TestParseShortRows(t *testing.T) {
	var walk func(s string, n int)
	walk = func(s string, n int) {
		byModel(t, s)
		for _, more := range allTokens {
			if n > 0 {
				walk(s+" "+more, n-1)
			}
		}
	}
	walk("", 4)
	walk("f =", 3)
	walk("f = case x of {", 3)
	walk("f = let { a =", 3)
}

func TestParseEndsEarly(t *testing.T) {
	for _, text := range someTexts {
		words := strings.Fields(text)
		for i := range words {
			s := strings.Join(words[:i], " ")
			for _, tail := range []string{"", " ", "\n\n", " -- behind"} {
				byModel(t, s+tail)
			}
			at, e := model(s)
			if e == api.OK { // it ends where a data or a bind does
				continue
			}
			if at != len(s) || e != api.ErrSyntax {
				t.Errorf("the model refuses %s at %d: %d", short(s), at, int(e))
			}
			wantFault(t, s, len(s), api.ErrSyntax)
			wantFault(t, s+" --;", len(s)+4, api.ErrSyntax)
		}
	}
}

func TestParseFirstFault(t *testing.T) {
	for s, at := range map[string]int{
		"f = 1; data C 1;":                  7,  // a data behind a bind
		"data C 1; f = 1; data D 1; = ;":    17, // two faults
		"= f = ;":                           0,
		"f = ; g = ;":                       4,
		"f = 1; ; g":                        7,
		"data c 1;":                         5,
		"data C x;":                         7,
		"data C 1 2;":                       9,
		"data #c 1;":                        5,
		"Data C 1;":                         0,
		"f x = 1;":                          2,
		"f = 1 2;":                          6,
		"f = x (y);":                        6,
		"f = x Y;":                          6,
		"f = x #y;":                         6,
		"f = (x) y;":                        8,
		"f = ();":                           5,
		"f = (1 2);":                        7,
		`f = (\ x -> 1);`:                   5, // a form in parentheses is none
		`f = \ x -> \ y -> 1;`:              11,
		`f = \ X -> 1;`:                     6,
		`f = \ 1 -> 1;`:                     6,
		`f = \ x 1 -> 1;`:                   8,
		`f = \ x = 1;`:                      8,
		"f = let { } in 1;":                 10,
		"f = let { a = 1 } in 1;":           16,
		"f = let { a = 1; };":               18,
		"f = let a = 1; in 1;":              8,
		"f = let { data C 1; } in 1;":       10,
		"f = let { a = 1; } of 1;":          19,
		"f = case 1 of { };":                16,
		"f = case 1 of { 2 -> 3 };":         23,
		"f = case 1 of 2 -> 3;":             14,
		"f = case 1 in { 2 -> 3; };":        11,
		"f = case of { 2 -> 3; };":          9,
		"f = case 1 of { C 2 -> 3; };":      18,
		"f = case 1 of { C D -> 3; };":      18,
		"f = case 1 of { x y -> 3; };":      18,
		"f = case 1 of { 1 y -> 3; };":      18,
		"f = case 1 of { #p -> 3; };":       16,
		"f = case 1 of { (x) -> 3; };":      16,
		"f = case 1 of { -> 3; };":          16,
		"f = case 1 of { x = 3; };":         18,
		`f = case 1 of { x -> \ y -> 1; };`: 21,
		"f = case 1 of { x -> 1; } y;":      26,
		"f = let { a = 1; } in a } ;":       24,
	} {
		wantFault(t, s, at, api.ErrSyntax)
		byModel(t, s)
	}
}

func TestParseLexFaultsFirst(t *testing.T) {
	wantFault(t, "= = ; ?", 6, api.ErrToken)
	wantFault(t, "f = x; ; a-b", 10, api.ErrToken)
	wantFault(t, "; 9223372036854775808", 2, api.ErrNumber)
	wantFault(t, "; "+strings.Repeat("a", 33), 2, api.ErrLong)
	wantFault(t, "data C 9223372036854775808;", 7, api.ErrNumber)
	wantFault(t, "; ? 9223372036854775808", 2, api.ErrToken)
	wantFault(t, "f = "+strings.Repeat("(", 70)+" #", 75, api.ErrToken)
	full := "f = 1;" + strings.Repeat(" ", api.MaxBytes-6)
	wantTree(t, full, of(num(4, 1)))
	wantFault(t, full+" ", 0, api.ErrBig)
	wantFault(t, "?"+full, 0, api.ErrBig)
	wantFault(t, strings.Repeat(";", api.MaxBytes+1), 0, api.ErrBig)
	wantFault(t, strings.Repeat(";", api.MaxBytes), 0, api.ErrSyntax)
	wantFault(t, "f = 1"+strings.Repeat(" ", api.MaxBytes-5), api.MaxBytes, api.ErrSyntax)
}

// Whatever bytes come in, Parse answers as the model does.
func TestParseAnyBytes(t *testing.T) {
	r := rand.New(rand.NewSource(2))
	pieces := append(slices.Clone(allTokens), " ", "\n", "-- r\n", "--", "-", "#", "\x00", "é", "\xff", "a1", "-5", "letx")
	for range 20000 {
		var b strings.Builder
		for range r.Intn(14) {
			b.WriteString(pieces[r.Intn(len(pieces))])
			if r.Intn(3) > 0 {
				b.WriteByte(' ')
			}
		}
		byModel(t, b.String())
	}
	for _, s := range []string{"\xff", "f = \xe2\x82", "f\x00= 1;", "é = 1;"} {
		byModel(t, s)
	}
}

// P6.1: too deep.

// The ways in which one expression stands in another: what is ahead of it, and what is behind; and what is ahead of the
// first that stands there, if that is another one.
var wraps = []struct{ ahead, behind, first string }{
	{"( ", " )", "( "},
	{"let { a = ", " ; } in 2", "let { a = "},
	{`let { a = \ b c -> `, " ; } in 2", `let { a = \ b c -> `},
	{"case ", " of { 1 -> 2 ; }", "case "},
	{"let { a = 1 ; } in ", "", "let { a = "},
	{`let { a = 1 ; b = `, " ; d = 3 ; } in 2", "let { a = "},
	{"case 1 of { 2 -> ", " ; }", "case "},
	{"case 1 of { C x -> ", " ; 3 -> 4 ; }", "case "},
	{"case 1 of { 2 -> 3 ; x -> ", " ; }", "case "},
}

const firstWraps = 4 // in which nothing stands ahead

// nested tells what is ahead of and behind an expression that stands in some others.
func nested(ways []int) (string, string) {
	ahead, behind := "", ""
	for _, w := range ways {
		ahead += wraps[w].ahead
		behind = wraps[w].behind + behind
	}
	return ahead, behind
}

// rowsOfWays tells rows of ways, n long: each way by itself, and some that are mixed; all end in one of the last.
func rowsOfWays(n, last int) [][]int {
	r := rand.New(rand.NewSource(int64(n)))
	var all [][]int
	for w := range wraps {
		all = append(all, slices.Repeat([]int{w}, n))
	}
	for range 30 {
		var ways []int
		for range n {
			ways = append(ways, r.Intn(len(wraps)))
		}
		all = append(all, ways)
	}
	for _, ways := range all {
		if n > 0 && ways[n-1] >= last {
			ways[n-1] = r.Intn(last)
		}
	}
	return all
}

var leaves = []string{"1", "x", "x y 2", "C", "#p 1", "( 1 )", "let { z = 1 ; } in 2", "case 1 of { 2 -> 3 ; }"}

func TestParseNest(t *testing.T) {
	for _, n := range []int{0, 1, 58, 59, 60, 61, 80} {
		for _, ways := range rowsOfWays(n, len(wraps)) {
			ahead, behind := nested(ways)
			for i, leaf := range leaves {
				form := []string{"f = ", `f = \ x y -> `, "data C 1 ; e = 1 ; f = "}[i%3]
				s := form + ahead + leaf + behind + " ;"
				byModel(t, s)
				if _, _, e := tree.Parse(s); n < 60 && i < 5 && e != api.OK {
					t.Errorf("%d deep: Parse of %s: %d", n+1, short(s), int(e))
				}
				if n >= 60 {
					start, _ := nested(ways[:59])
					wantFault(t, s, len(form)+len(start)+len(wraps[ways[59]].first), api.ErrNest)
				}
			}
		}
	}
}

// Behind what is too deep all else is as it likes; a token that doesn't stand where too deep an expression is due is
// both faults at once.
func TestParseNestAndSyntax(t *testing.T) {
	noExp := []string{"->", "=", "{", "}", ";", ")", "in", "of", "data"}
	for _, ways := range rowsOfWays(60, firstWraps) {
		ahead, behind := nested(ways)
		s := "f = " + ahead
		place := len(s)
		for _, tail := range []string{"1", "1 2", "x )", "x ;", "(", "let", "let }", "case of", "C C", "#p ->", "1" + behind, "1" + behind + " ; data"} {
			wantFault(t, s+tail, place, api.ErrNest)
			byModel(t, s+tail)
		}
		for _, wrong := range noExp {
			wantFault(t, s+wrong, place, api.ErrNest)
			wantFault(t, s+wrong+" "+behind+" ;", place, api.ErrNest)
			byModel(t, s+wrong)
		}
		wantFault(t, "f = 1 ; ; g = "+ahead+"1"+behind+" ;", 8, api.ErrSyntax)
		wantFault(t, s+"1 ?", place+2, api.ErrToken)
	}
	for _, ways := range rowsOfWays(59, len(wraps)) {
		ahead, behind := nested(ways)
		s := "f = " + ahead
		for _, wrong := range noExp {
			wantFault(t, s+wrong+behind+" ;", len(s), api.ErrSyntax)
		}
		wantFault(t, s+"1 2"+behind+" ;", len(s)+2, api.ErrSyntax)
		wantFault(t, s+"( 1 )"+behind+" ;", len(s)+2, api.ErrNest)
		wantFault(t, s+"case 1 of { 2 -> 3 ; }"+behind+" ;", len(s)+5, api.ErrNest)
		wantFault(t, s+"let { a = 1 ; } in 1"+behind+" ;", len(s)+10, api.ErrNest)
		wantFault(t, s+`let { a = \ x -> 1 ; } in 1`+behind+" ;", len(s)+17, api.ErrNest)
		wantFault(t, s+`let { a = \ 1`, len(s)+12, api.ErrSyntax)
		wantFault(t, s+`let { a = \ ;`, len(s)+12, api.ErrSyntax)
		wantFault(t, s+`let { 1 = 1 ;`, len(s)+6, api.ErrSyntax)
	}
}

// Where the text ends there is no token that is too deep, but a text that is too short.
func TestParseNestAtTheEnd(t *testing.T) {
	for _, ways := range rowsOfWays(60, firstWraps) {
		ahead, _ := nested(ways)
		s := "f = " + ahead
		wantFault(t, s, len(s), api.ErrSyntax)
		wantFault(t, s+"--", len(s)+2, api.ErrSyntax)
		words := strings.Fields(s)
		for i := range words {
			ends := strings.Join(words[:i], " ")
			if i > 0 {
				wantFault(t, ends, len(ends), api.ErrSyntax)
			}
		}
	}
}

// Expressions beside one another are no deeper; the next one's depth begins anew.
func TestParseNestBeside(t *testing.T) {
	ahead, behind := nested(slices.Repeat([]int{0}, 59))
	one := ahead + "1" + behind
	byModel(t, "f = "+one+" ; g = "+one+" ;")
	inner := strings.Repeat("(", 58) + "1" + strings.Repeat(")", 58)
	s := "f = let { a = " + inner + " ; b = " + inner + " ; } in " + inner + " ; g = case " + inner + " of { 1 -> " + inner + " ; x -> " + inner + " ; } ;"
	if _, at, e := tree.Parse(s); at != 0 || e != api.OK {
		t.Errorf("%d, %d", at, int(e))
	}
	deeper := strings.Replace(s, "x -> (", "x -> ((", 1)
	wantFault(t, deeper, strings.LastIndex(deeper, "(1")+1, api.ErrNest)
}

// R3, R4: an answer is new memory, of which no two lists share any, and the same whenever it is asked for.
func TestParseNewMemory(t *testing.T) {
	s := `data C 1; data D 2; f = \ x y -> case x of { C y z -> y 1 2; 3 -> let { a = 1; b = \ c d -> 2; } in b 3; z -> C z 1; }; g = 1;`
	p, _, _ := tree.Parse(s)
	q, _, _ := tree.Parse(s)
	spoilSpare(p)
	if !reflect.DeepEqual(p, q) {
		t.Errorf("lists of one answer share their spare room")
	}
	spoil(p)
	if again, _, _ := tree.Parse(s); !reflect.DeepEqual(q, again) {
		t.Errorf("a later answer hangs on what is done with an earlier one")
	}
}

// spoilSpare writes into the room behind each list.
func spoilSpare(p api.Program) {
	_ = append(p.Datas, api.Data{Name: "?"})
	spoilBinds(p.Binds)
}

func spoilBinds(l []api.Bind) {
	_ = append(l, api.Bind{Name: "?"})
	for _, b := range l {
		_ = append(b.Form.Args, "?")
		spoilExp(b.Form.Body)
	}
}

func spoilExp(x api.Exp) {
	_ = append(x.Atoms, api.Atom{Name: "?"})
	_ = append(x.Kids, api.Exp{Kind: 99})
	_ = append(x.Alts, api.Alt{Kind: 99})
	spoilBinds(x.Binds)
	for _, k := range x.Kids {
		spoilExp(k)
	}
	for _, a := range x.Alts {
		_ = append(a.Vars, "?")
		spoilExp(a.Body)
	}
}

// spoil writes over what a program's lists hold.
func spoil(p api.Program) {
	for i := range p.Datas {
		p.Datas[i] = api.Data{Name: "?"}
	}
	for i := range p.Binds {
		body := p.Binds[i].Form.Body
		for j := range body.Alts {
			body.Alts[j] = api.Alt{Kind: 99}
		}
		for j := range body.Kids {
			body.Kids[j] = api.Exp{Kind: 99}
		}
		p.Binds[i] = api.Bind{Name: "?"}
	}
}

// P6.4 (together).

func TestTogether(t *testing.T) {
	m := newMaker(3, []string{" ", "\n"})
	for range 2000 {
		datas, binds := m.Intn(3), m.Intn(3)
		if m.Intn(2) == 0 {
			datas = 0
		} else {
			binds = 0
		}
		first, second := "", ""
		var p, q api.Program
		if datas == 0 { // the second has no datas
			first, p = m.program(m.Intn(3), m.Intn(3), 2)
			second, q = m.program(0, binds, 2)
		} else { // the first has no binds
			first, p = m.program(datas, 0, 2)
			second, q = m.program(m.Intn(3), m.Intn(3), 2)
		}
		both := first + second
		if len(both) > api.MaxBytes {
			continue
		}
		whole, at, e := tree.Parse(both)
		want := api.Program{Datas: slices.Concat(p.Datas, q.Datas), Binds: slices.Concat(p.Binds, q.Binds)}
		if at != 0 || e != api.OK || !tree.Same(whole, want) {
			t.Fatalf("Parse of %s: %d, %d", short(both), at, int(e))
		}
		for i, b := range whole.Binds[len(p.Binds):] { // the second's places are behind the first
			if b.At != q.Binds[i].At+len(first) {
				t.Fatalf("a bind's place: %d", b.At)
			}
		}
	}
	for _, s := range []string{"", "data C 1;", "f = 1;", "data C 1; f = 1;", "data C 1; data D 2; f = 1; g = 2;"} {
		for _, second := range []string{"", "data E 3;", "h = 3;", "data E 3; h = 3;"} {
			p, _, _ := tree.Parse(s)
			q, _, _ := tree.Parse(second)
			if len(p.Binds) > 0 && len(q.Datas) > 0 {
				wantFault(t, s+second, len(s), api.ErrSyntax)
				continue
			}
			both, _, e := tree.Parse(s + second)
			if e != api.OK || len(both.Datas) != len(p.Datas)+len(q.Datas) || len(both.Binds) != len(p.Binds)+len(q.Binds) {
				t.Errorf("Parse of %s: %v", short(s+second), both)
			}
		}
	}
}

// P6.5 (blanks).

func TestBlanksChangeNothing(t *testing.T) {
	for _, text := range someTexts {
		p, _, e := tree.Parse(text)
		if e != api.OK {
			t.Errorf("Parse of %s: %d", short(text), int(e))
		}
		words := strings.Fields(text)
		for i := 0; i <= len(words); i++ {
			for _, gap := range someGaps {
				s := strings.Join(words[:i], " ") + " " + gap + strings.Join(words[i:], " ")
				q, at, e := tree.Parse(s)
				if at != 0 || e != api.OK || !tree.Same(p, q) {
					t.Errorf("Parse of %s: %d, %d", short(s), at, int(e))
				}
			}
		}
		for _, gap := range someGaps {
			if q, _, e := tree.Parse(gap + strings.Join(words, gap) + gap); e != api.OK || !tree.Same(p, q) {
				t.Errorf("Parse of %s with %q between: %d", short(text), gap, int(e))
			}
		}
	}
}

// A wrong text's fault stands at the same token, whatever is between.
func TestBlanksMoveFaults(t *testing.T) {
	for _, text := range someTexts {
		changed(text, func(s string) {
			_, at, e := tree.Parse(s)
			words := strings.Fields(s)
			wide := "\n-- a\n" + strings.Join(words, " --b\n\t") + " "
			_, wideAt, wideErr := tree.Parse(wide)
			if wideErr != e {
				t.Fatalf("Parse of %s: %d; of %s: %d", short(s), int(e), short(wide), int(wideErr))
			}
			if e == api.OK {
				return
			}
			before := len(strings.Fields(s[:at]))
			want := len(wide)
			if before < len(words) {
				want = 6
				for _, w := range words[:before] {
					want += len(w) + len(" --b\n\t")
				}
			}
			if wideAt != want {
				t.Fatalf("Parse of %s: at %d, want %d", short(wide), wideAt, want)
			}
		})
	}
}

func ExampleParse() {
	p, at, e := tree.Parse(`data C 1; f = \ x -> C x;`)
	fmt.Println(len(p.Datas), len(p.Binds), at, e == api.OK)
	_, at, e = tree.Parse("f = x")
	fmt.Println(at, e == api.ErrSyntax)
	// Output:
	// 1 1 0 true
	// 5 true
}
