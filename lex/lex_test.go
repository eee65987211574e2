package lex_test

import (
	"math"
	"math/big"
	"math/rand"
	"regexp"
	"slices"
	"strconv"
	"strings"
	"testing"

	"midden/api"
	"midden/lex"
)

var (
	fiveWords  = []string{"let", "in", "case", "of", "data"}
	eightSigns = []string{"->", "=", "\\", "{", "}", ";", "(", ")"}
	allKinds   = []int{1, 2, 3, 4, 5, 6}
	// Numbers of int that are no kind of tokens; the lower half of some is one.
	wrongKinds = []int{math.MinInt, math.MinInt + 1, -1 << 32, -1<<32 + 1, -1 << 31, -6, -5, -3, -2, -1, 0, 7, 8, 9, 255, 257, 258, 1<<16 + 3, 1<<31 - 1, 1 << 31, 1 << 32, 1<<32 + 1, 1<<32 + 2, 1<<32 + 4, 1 << 62, math.MaxInt - 1, math.MaxInt}
)

func name(text string, at int) api.Token { return api.Token{Kind: api.TName, Text: text, At: at} }
func con(text string, at int) api.Token  { return api.Token{Kind: api.TCon, Text: text, At: at} }
func prim(text string, at int) api.Token { return api.Token{Kind: api.TPrim, Text: text, At: at} }
func number(n int64, at int) api.Token   { return api.Token{Kind: api.TInt, N: n, At: at} }
func sign(text string, at int) api.Token { return api.Token{Kind: api.TSign, Text: text, At: at} }
func word(text string, at int) api.Token { return api.Token{Kind: api.TWord, Text: text, At: at} }

// What stands ahead of a token, and the table's rows: each in words of its own, away from the program's.
var (
	nothingRule = regexp.MustCompile(`^(?:[\x09\x0a\x0d\x20]|--[^\x0a]*(?:\x0a|\z))+`)
	tokenRules  = []struct {
		kind int
		rule *regexp.Regexp
	}{
		{api.TWord, regexp.MustCompile(`^(?:let|in|case|of|data)(?:[^a-zA-Z0-9_]|\z)`)},
		{api.TName, regexp.MustCompile(`^[a-z][a-zA-Z0-9_]*`)},
		{api.TCon, regexp.MustCompile(`^[A-Z][a-zA-Z0-9_]*`)},
		{api.TPrim, regexp.MustCompile(`^#[a-z][a-zA-Z0-9_]*`)},
		{api.TInt, regexp.MustCompile(`^-?[0-9]+`)},
		{api.TSign, regexp.MustCompile(`^(?:->|[=\\{};()])`)},
	}
	wordRule = regexp.MustCompile(`^[a-z]+`)
)

// modelToken says by the rules which token a text begins with, and how many bytes it has.
func modelToken(s string) (api.Token, int, api.Errno) {
	for _, r := range tokenRules {
		text := r.rule.FindString(s)
		if text == "" {
			continue
		}
		if r.kind == api.TWord { // without the byte that shows that the run has ended
			text = wordRule.FindString(text)
		}
		if r.kind != api.TInt {
			if len(text) > 32 {
				return api.Token{}, 0, api.ErrLong
			}
			return api.Token{Kind: r.kind, Text: text}, len(text), api.OK
		}
		n, _ := new(big.Int).SetString(text, 10)
		if !n.IsInt64() {
			return api.Token{}, 0, api.ErrNumber
		}
		return api.Token{Kind: api.TInt, N: n.Int64()}, len(text), api.OK
	}
	return api.Token{}, 0, api.ErrToken
}

// model says what Scan answers.
func model(s string) ([]api.Token, int, api.Errno) {
	if len(s) > 16384 {
		return nil, 0, api.ErrBig
	}
	var all []api.Token
	for at := 0; ; {
		at += len(nothingRule.FindString(s[at:]))
		if at == len(s) {
			return all, 0, api.OK
		}
		t, n, e := modelToken(s[at:])
		if e != api.OK {
			return nil, at, e
		}
		t.At = at
		all = append(all, t)
		at += n
	}
}

func short(s string) string {
	if len(s) > 80 {
		s = s[:80] + ".."
	}
	return strconv.Quote(s)
}

func wantScan(t *testing.T, s string, want []api.Token, wantAt int, wantErr api.Errno) {
	t.Helper()
	l, at, e := lex.Scan(s)
	if e != wantErr || at != wantAt || !slices.Equal(l, want) {
		t.Errorf("Scan of %s (%d bytes): %v, %d, %d; want %v, %d, %d", short(s), len(s), l, at, int(e), want, wantAt, int(wantErr))
	}
}

func wantTokens(t *testing.T, s string, want ...api.Token) {
	t.Helper()
	wantScan(t, s, want, 0, api.OK)
}

func wantFault(t *testing.T, s string, at int, e api.Errno) {
	t.Helper()
	wantScan(t, s, nil, at, e)
}

// byModel holds Scan to the rules.
func byModel(t *testing.T, s string) {
	t.Helper()
	l, at, e := model(s)
	wantScan(t, s, l, at, e)
}

func withoutAt(l []api.Token) []api.Token {
	out := slices.Clone(l)
	for i := range out {
		out[i].At = 0
	}
	return out
}

// each calls f with all texts of n pieces.
func each(pieces []string, n int, f func(string)) {
	if n == 0 {
		f("")
		return
	}
	each(pieces, n-1, func(s string) {
		for _, p := range pieces {
			f(s + p)
		}
	})
}

// P5.1

func TestScanExamples(t *testing.T) {
	wantTokens(t, "f = \\ x -> #add x -1; -- it",
		name("f", 0), sign("=", 2), sign("\\", 4), name("x", 6), sign("->", 8), prim("#add", 11), name("x", 16), number(-1, 18), sign(";", 20))
	wantFault(t, "a-b", 1, api.ErrToken)
	wantFault(t, "#A", 0, api.ErrToken)
	wantFault(t, "9223372036854775808", 0, api.ErrNumber)
}

func TestScanProgram(t *testing.T) {
	wantTokens(t, "data P 2; main = let { p = P 1 q; q = case p of { P a b -> a; }; } in q;",
		word("data", 0), con("P", 5), number(2, 7), sign(";", 8),
		name("main", 10), sign("=", 15), word("let", 17), sign("{", 21),
		name("p", 23), sign("=", 25), con("P", 27), number(1, 29), name("q", 31), sign(";", 32),
		name("q", 34), sign("=", 36), word("case", 38), name("p", 43), word("of", 45), sign("{", 48),
		con("P", 50), name("a", 52), name("b", 54), sign("->", 56), name("a", 59), sign(";", 60), sign("}", 62), sign(";", 63),
		sign("}", 65), word("in", 67), name("q", 70), sign(";", 71))
}

func TestScanWithoutToken(t *testing.T) {
	for _, s := range []string{"", " ", "\t", "\n", "\r", " \t\r\n\n\r\t ", "--", "---", "-->", "--\n", "-- a\n", "-- a", "--\n--", " --\r--\n\t-- #", "--\x00\xff?!\n", "-- é 世\n ", "--" + strings.Repeat("a", 16382)} {
		wantTokens(t, s)
	}
}

func TestScanBytes(t *testing.T) {
	for c := range 256 {
		s := string([]byte{byte(c)})
		switch {
		case c == 9 || c == 10 || c == 13 || c == 32:
			wantTokens(t, s)
			wantTokens(t, "a"+s+"b", name("a", 0), name("b", 2))
		case c >= 'a' && c <= 'z':
			wantTokens(t, s, name(s, 0))
			wantTokens(t, "A"+s, con("A"+s, 0))
			wantTokens(t, "#"+s, prim("#"+s, 0))
			wantTokens(t, "1"+s, number(1, 0), name(s, 1))
		case c >= 'A' && c <= 'Z':
			wantTokens(t, s, con(s, 0))
			wantTokens(t, "a"+s, name("a"+s, 0))
			wantTokens(t, "1"+s, number(1, 0), con(s, 1))
			wantFault(t, "#"+s, 0, api.ErrToken)
		case c >= '0' && c <= '9':
			wantTokens(t, s, number(int64(c-'0'), 0))
			wantTokens(t, "-"+s, number(int64('0'-c), 0))
			wantTokens(t, "a"+s, name("a"+s, 0))
			wantFault(t, "#"+s, 0, api.ErrToken)
		case strings.Contains("=\\{};()", s):
			wantTokens(t, s, sign(s, 0))
			wantTokens(t, "a"+s+s+"1", name("a", 0), sign(s, 1), sign(s, 2), number(1, 3))
		default:
			wantFault(t, s, 0, api.ErrToken)
			wantFault(t, "a ="+s+"\n b", 3, api.ErrToken)
			wantTokens(t, "--"+s+"\nb", name("b", 4))
			if s != "_" && s != "#" && s != "-" {
				wantFault(t, "#"+s, 0, api.ErrToken)
				wantFault(t, "a"+s+"b", 1, api.ErrToken)
			}
			if s != "-" && s != ">" {
				wantFault(t, "-"+s, 0, api.ErrToken)
			}
		}
	}
}

func TestScanBlanks(t *testing.T) {
	for _, b := range []string{"\t", "\n", "\r", " "} {
		wantTokens(t, b+"a"+b+b+"B"+b, name("a", 1), con("B", 4))
	}
	for _, b := range []string{"\x00", "\x08", "\v", "\f", "\x0e", "\x1f", "!", "\x7f", "\x85", "\xa0", "\u0085", "\u00a0", "\u2003", "\u2028", "\u3000", "\ufeff"} {
		wantFault(t, "a"+b+"b", 1, api.ErrToken)
		wantFault(t, b, 0, api.ErrToken)
	}
}

func TestScanRemarks(t *testing.T) {
	wantTokens(t, "a -- b\nc", name("a", 0), name("c", 7))
	wantTokens(t, "a -- b", name("a", 0))
	wantTokens(t, "a --", name("a", 0))
	wantTokens(t, "a --\n", name("a", 0))
	wantTokens(t, "-- a -- b\nc", name("c", 10))
	wantTokens(t, "--\n--\n--a\nb", name("b", 10))
	wantTokens(t, "-- a\rb\nc", name("c", 7))
	wantTokens(t, "-- a\vb\x00\u2028\nc", name("c", 11))
	for _, at := range []api.Token{name("a1", 0), con("Ab", 0), prim("#ab", 0), number(12, 0), number(-1, 0), sign("->", 0), sign("=", 0), sign(")", 0), word("let", 0), word("in", 0)} {
		text := at.Text
		if at.Kind == api.TInt {
			text = strconv.FormatInt(at.N, 10)
		}
		wantTokens(t, text+"--", at)
		wantTokens(t, text+"--b\nc", at, name("c", len(text)+4))
		wantTokens(t, "--b\n"+text+"--", api.Token{Kind: at.Kind, Text: at.Text, N: at.N, At: 4})
	}
}

func TestScanMinus(t *testing.T) {
	wantFault(t, "-", 0, api.ErrToken)
	wantFault(t, "- 1", 0, api.ErrToken)
	wantFault(t, "-\n-", 0, api.ErrToken)
	wantFault(t, "-a", 0, api.ErrToken)
	wantFault(t, "-_", 0, api.ErrToken)
	wantFault(t, "-#a", 0, api.ErrToken)
	wantFault(t, "1-", 1, api.ErrToken)
	wantFault(t, "->-", 2, api.ErrToken)
	wantFault(t, "->>", 2, api.ErrToken)
	wantFault(t, ">", 0, api.ErrToken)
	wantFault(t, "- >", 0, api.ErrToken)
	wantTokens(t, "-1", number(-1, 0))
	wantTokens(t, "1-1", number(1, 0), number(-1, 1))
	wantTokens(t, "a-1", name("a", 0), number(-1, 1))
	wantTokens(t, "-1-2-3", number(-1, 0), number(-2, 2), number(-3, 4))
	wantTokens(t, "-1->-1", number(-1, 0), sign("->", 2), number(-1, 4))
	wantTokens(t, "->->", sign("->", 0), sign("->", 2))
	wantTokens(t, "->--", sign("->", 0))
	wantTokens(t, "->1", sign("->", 0), number(1, 2))
	wantTokens(t, "a->b", name("a", 0), sign("->", 1), name("b", 3))
	wantTokens(t, "--1")
	wantTokens(t, "-->")
	wantTokens(t, "---1")
	wantTokens(t, "--->")
	wantTokens(t, "1--1", number(1, 0))
	wantTokens(t, "-1--1\n-2", number(-1, 0), number(-2, 6))
}

func TestScanHash(t *testing.T) {
	for _, s := range []string{"#", "#A", "#Ab", "#1", "#_", "#_a", "##", "##a", "# a", "#\na", "#-", "#--", "#-1", "#=", "#\x00", "#\xff", "#é"} {
		wantFault(t, s, 0, api.ErrToken)
		wantFault(t, "a "+s, 2, api.ErrToken)
	}
	wantTokens(t, "#a", prim("#a", 0))
	wantTokens(t, "#aB_9", prim("#aB_9", 0))
	wantTokens(t, "#a#b", prim("#a", 0), prim("#b", 2))
	wantTokens(t, "a#b", name("a", 0), prim("#b", 1))
	wantTokens(t, "#a-1", prim("#a", 0), number(-1, 2))
	wantTokens(t, "#let #in", prim("#let", 0), prim("#in", 5))
}

func TestScanRuns(t *testing.T) {
	wantTokens(t, "aZ_09z", name("aZ_09z", 0))
	wantTokens(t, "Za_09Z", con("Za_09Z", 0))
	wantTokens(t, "a_", name("a_", 0))
	wantTokens(t, "A__", con("A__", 0))
	wantFault(t, "_", 0, api.ErrToken)
	wantFault(t, "_a", 0, api.ErrToken)
	wantFault(t, "1_", 1, api.ErrToken)
	wantFault(t, "1_000", 1, api.ErrToken)
	wantFault(t, "a'", 1, api.ErrToken)
	wantFault(t, "aé", 1, api.ErrToken)
	wantTokens(t, "1a", number(1, 0), name("a", 1))
	wantTokens(t, "1A2", number(1, 0), con("A2", 1))
	wantTokens(t, "0x1f", number(0, 0), name("x1f", 1))
	wantTokens(t, "1e5", number(1, 0), name("e5", 1))
}

func TestScanLongWords(t *testing.T) {
	for _, begin := range []string{"a", "A", "#a", "let", "in", "Of"} {
		most := begin + strings.Repeat("x", 32-len(begin))
		kind := map[byte]int{'a': api.TName, 'l': api.TName, 'i': api.TName, 'A': api.TCon, 'O': api.TCon, '#': api.TPrim}[begin[0]]
		wantTokens(t, most, api.Token{Kind: kind, Text: most})
		wantTokens(t, " "+most+"=", api.Token{Kind: kind, Text: most, At: 1}, sign("=", 33))
		for _, more := range []string{"x", "X", "9", "_", strings.Repeat("y", 32), strings.Repeat("z", 16000)} {
			wantFault(t, most+more, 0, api.ErrLong)
			wantFault(t, "= "+most+more+" ?", 2, api.ErrLong)
		}
		wantFault(t, most+"é", 32, api.ErrToken)
	}
	wantTokens(t, strings.Repeat("1", 18)+strings.Repeat("a", 32), number(111111111111111111, 0), name(strings.Repeat("a", 32), 18))
}

func TestScanFiveWords(t *testing.T) {
	for _, w := range fiveWords {
		wantTokens(t, w, word(w, 0))
		wantTokens(t, w+"-1"+w, word(w, 0), number(-1, len(w)), word(w, len(w)+2))
		wantTokens(t, w+"=", word(w, 0), sign("=", len(w)))
		wantTokens(t, "#"+w, prim("#"+w, 0))
		for _, more := range []string{"a", "A", "0", "_", w} {
			wantTokens(t, w+more, name(w+more, 0))
		}
		wantTokens(t, "x"+w, name("x"+w, 0))
		wantTokens(t, w[:len(w)-1], name(w[:len(w)-1], 0))
		great := strings.ToUpper(w[:1]) + w[1:]
		wantTokens(t, great, con(great, 0))
		low := w[:1] + strings.ToUpper(w[1:])
		wantTokens(t, low, name(low, 0))
	}
	wantTokens(t, "main then where", name("main", 0), name("then", 5), name("where", 10))
}

func TestScanNumbers(t *testing.T) {
	for _, n := range []int64{0, 1, -1, 9, 10, -10, 1<<31 - 1, 1 << 31, -1 << 31, 1 << 32, math.MaxInt64 - 1, math.MaxInt64, math.MinInt64, math.MinInt64 + 1} {
		s := strconv.FormatInt(n, 10)
		wantTokens(t, s, number(n, 0))
		minus, digits := "", s
		if n < 0 {
			minus, digits = "-", s[1:]
		}
		for _, noughts := range []int{1, 13, 33, 1000, 16384 - len(s)} {
			wantTokens(t, minus+strings.Repeat("0", noughts)+digits, number(n, 0))
		}
	}
	wantTokens(t, "-0", number(0, 0))
	wantTokens(t, "-000 000", number(0, 0), number(0, 5))
	wantTokens(t, "007", number(7, 0))
	for _, s := range []string{"9223372036854775808", "-9223372036854775809", "9223372036854775810", "-9223372036854775810", "10000000000000000000", "18446744073709551615", "18446744073709551616", "18446744073709551617", "-18446744073709551616", "-18446744073709551617", "340282366920938463463374607431768211457", strings.Repeat("9", 16380)} {
		wantFault(t, s, 0, api.ErrNumber)
		wantFault(t, s+"a", 0, api.ErrNumber)
		wantFault(t, "a "+s, 2, api.ErrNumber)
	}
	wantFault(t, strings.Repeat("0", 100)+"9223372036854775808", 0, api.ErrNumber)
	wantFault(t, "-"+strings.Repeat("0", 100)+"9223372036854775809", 0, api.ErrNumber)
}

func TestScanFirstFault(t *testing.T) {
	long, far := strings.Repeat("a", 33), "9223372036854775808"
	faults := []struct {
		text string
		e    api.Errno
	}{{"?", api.ErrToken}, {"-", api.ErrToken}, {"#A", api.ErrToken}, {long, api.ErrLong}, {"#" + long[:32], api.ErrLong}, {"B" + long[:32], api.ErrLong}, {far, api.ErrNumber}, {"-" + far + "0", api.ErrNumber}, {"\xff", api.ErrToken}}
	for _, one := range faults {
		for _, other := range faults {
			wantFault(t, one.text+" "+other.text, 0, one.e)
			wantFault(t, "f = -- ?\n "+one.text+";"+other.text, 10, one.e)
		}
	}
}

func TestScanHighBytes(t *testing.T) {
	for _, s := range []string{"é", "世", "𝄞", "\x80", "\xc3", "\xff", "\xfe\xff", "\xc0\xbd", "\xe4\xb8", "\xed\xa0\x80", "\xf5", "\u007f", "＝", "→", "ａ", "Ａ", "１", "ª", "µ", "\ufffd", "\u017f", "\u212a"} {
		wantFault(t, s, 0, api.ErrToken)
		wantFault(t, "a"+s, 1, api.ErrToken)
		wantFault(t, "#"+s, 0, api.ErrToken)
		wantFault(t, "-"+s, 0, api.ErrToken)
		wantFault(t, "= "+s+" =", 2, api.ErrToken)
		wantFault(t, "1"+s, 1, api.ErrToken)
		wantTokens(t, "--"+s+"\n=", sign("=", 3+len(s)))
		wantTokens(t, "=--"+s, sign("=", 0))
	}
}

func TestScanBigText(t *testing.T) {
	for _, piece := range []string{" ", "\n", "a ", "1 ", "=", "--\n", "-1", "?"} {
		s := strings.Repeat(piece, 16385)
		byModel(t, s[:16383])
		byModel(t, s[:16384])
		wantFault(t, s[:16385], 0, api.ErrBig)
	}
	signs := strings.Repeat(";", 16384)
	l, at, e := lex.Scan(signs)
	if len(l) != 16384 || at != 0 || e != api.OK || l[16383] != sign(";", 16383) {
		t.Errorf("Scan of 16384 signs: %d tokens, %d, %d", len(l), at, int(e))
	}
	wantFault(t, signs+";", 0, api.ErrBig)
	wantFault(t, strings.Repeat(" ", 16384)+"a", 0, api.ErrBig)
	wantFault(t, "?"+strings.Repeat(" ", 16384), 0, api.ErrBig)
	wantFault(t, strings.Repeat("a", 16385), 0, api.ErrBig)
	wantFault(t, strings.Repeat("9", 1<<20), 0, api.ErrBig)
	wantFault(t, "--"+strings.Repeat("é", 8192), 0, api.ErrBig)
}

func TestScanShortTexts(t *testing.T) {
	pieces := []string{"a", "Z", "0", "_", "#", "-", ">", "=", "\n", " ", "\xff"}
	for n := range 6 {
		each(pieces, n, func(s string) { byModel(t, s) })
	}
}

// A row of chance texts, the same in every run.
func chanceTexts(many int) []string {
	r := rand.New(rand.NewSource(5))
	pieces := slices.Concat(eightSigns, fiveWords, []string{"a", "b1", "Cd", "#e", "_", "0", "12", "-3", "-", "--", "#", " ", "\n", "\t", "\r", "-- x\n", "--", "\x00", "é", "9223372036854775807", "00", strings.Repeat("n", 31), "?"})
	var out []string
	for range many {
		var b strings.Builder
		for range r.Intn(12) {
			p := pieces[r.Intn(len(pieces))]
			// Wrong pieces are rare, or no text would go far.
			if (p == "?" || p == "é" || p == "\x00" || p == "#" || p == "_" || p == "-") && r.Intn(4) > 0 {
				p = " "
			}
			b.WriteString(p)
		}
		out = append(out, b.String())
	}
	return out
}

func TestScanChanceTexts(t *testing.T) {
	for _, s := range chanceTexts(20000) {
		byModel(t, s)
	}
}

// R3: an answer is the caller's own, and asked again it is the same.
func TestScanAnswersAreNew(t *testing.T) {
	s := "f = \\ x -> #add x -1;"
	first, _, _ := lex.Scan(s)
	for i := range first {
		first[i] = api.Token{Kind: 99, Text: "gone", N: 7, At: -1}
	}
	byModel(t, s)
}

// P5.2

func TestWord(t *testing.T) {
	right := map[int][]string{
		api.TName: {"a", "z", "x1", "aB_", "a_", "lets", "let_", "in1", "caseA", "ofof", "dat", strings.Repeat("a", 32)},
		api.TCon:  {"A", "Z", "X1", "Ab_", "Let", "Data", strings.Repeat("A", 32)},
		api.TPrim: {"#a", "#z", "#x1", "#aB_", "#let", "#in", "#" + strings.Repeat("a", 31)},
	}
	for kind, texts := range right {
		for _, s := range texts {
			for _, k := range slices.Concat(allKinds, wrongKinds) {
				if lex.Word(s, k) != (k == kind) {
					t.Errorf("Word of %s, %d: %v", short(s), k, k != kind)
				}
			}
			for _, about := range []string{" " + s, s + " ", s + "\n", "\t" + s, s + "-- r", "--\n" + s, s + "--", s + " a", s + "=", s + "-", s + "é", s + "\x00", s + "'", "(" + s + ")", "_" + s, "1" + s, "##" + s, s + s + "?"} {
				noWord(t, about)
			}
			noWord(t, s+strings.Repeat("b", 33-len(s)))
			noWord(t, s+strings.Repeat("b", 20000))
		}
	}
	for _, s := range slices.Concat(fiveWords, eightSigns, []string{"", " ", "\n", "--", "--a", "-", "0", "1", "-1", "007", "#", "#A", "#1", "#_", "#_a", "##a", "# a", "_", "_a", "é", "É", "#é", "\xff", "\x00", "a b", "A B", "a,b", "a-b", "a.b", "A.b", "a#b", "A#b"}) {
		noWord(t, s)
	}
}

func noWord(t *testing.T, s string) {
	t.Helper()
	for _, kind := range slices.Concat(allKinds, wrongKinds) {
		if lex.Word(s, kind) {
			t.Errorf("Word of %s, %d: true", short(s), kind)
		}
	}
}

func TestWordByModel(t *testing.T) {
	check := func(s string) {
		found, n, e := modelToken(s)
		for _, kind := range allKinds {
			want := e == api.OK && n == len(s) && found.Kind == kind && kind <= api.TPrim
			if lex.Word(s, kind) != want {
				t.Errorf("Word of %s, %d: %v", short(s), kind, !want)
			}
		}
	}
	for n := range 5 {
		each([]string{"a", "Z", "0", "_", "#", "-", "in", "=", "\n", " ", "\xff"}, n, check)
	}
}

// P5.3

func wantJoin(t *testing.T, l []api.Token, want string, wantErr api.Errno) {
	t.Helper()
	before := slices.Clone(l)
	s, e := lex.Join(l)
	if s != want || e != wantErr {
		t.Errorf("Join of %d tokens: %s (%d bytes), %d; want %s (%d bytes), %d", len(l), short(s), len(s), int(e), short(want), len(want), int(wantErr))
	}
	if !slices.Equal(before, l) {
		t.Errorf("Join changed what it was handed: %v, was %v", l, before)
	}
}

func TestJoin(t *testing.T) {
	wantJoin(t, nil, "", api.OK)
	wantJoin(t, []api.Token{}, "", api.OK)
	wantJoin(t, []api.Token{name("f", 0), sign("=", 0), sign("\\", 0), name("x", 0), sign("->", 0), prim("#add", 0), name("x", 0), number(-1, 0), sign(";", 0)}, "f = \\ x -> #add x -1 ; ", api.OK)
	wantJoin(t, []api.Token{con("Cons", 0), number(0, 0), word("in", 0)}, "Cons 0 in ", api.OK)
	for _, s := range fiveWords {
		wantJoin(t, []api.Token{word(s, 0)}, s+" ", api.OK)
	}
	for _, s := range eightSigns {
		wantJoin(t, []api.Token{sign(s, 0)}, s+" ", api.OK)
	}
	for _, n := range []int64{0, 1, -1, 9, 10, -10, 1 << 32, math.MaxInt64, math.MinInt64, math.MinInt64 + 1} {
		wantJoin(t, []api.Token{number(n, 0), number(n, 0)}, strings.Repeat(strconv.FormatInt(n, 10)+" ", 2), api.OK)
	}
	for _, l := range []api.Token{name(strings.Repeat("a", 32), 0), con(strings.Repeat("A", 32), 0), prim("#"+strings.Repeat("a", 31), 0)} {
		wantJoin(t, []api.Token{l}, l.Text+" ", api.OK)
	}
}

// Texts of each kind, by which each kind's own are told from all others.
func textsOfKinds() map[int][]string {
	return map[int][]string{
		api.TName: {"a", "letx", strings.Repeat("a", 32)},
		api.TCon:  {"A", "Let", strings.Repeat("A", 32)},
		api.TPrim: {"#a", "#let", "#" + strings.Repeat("a", 31)},
		api.TSign: eightSigns,
		api.TWord: fiveWords,
		0:         {"", " ", "--", "--a", "-", ">", "- >", "->->", "==", "= ", " =", "()", ",", "let ", " let", "let--", "let in", "Let in", "a ", " a", "a b", "A ", " A", "#a ", " #a", "#", "#A", "#1", "_", "1", "-1", "é", "\xff", "\x00", "=\x00", "=é", "＝", strings.Repeat("a", 33), strings.Repeat("A", 33), "#" + strings.Repeat("a", 32), strings.Repeat("a", 20000), strings.Repeat("=", 20000)},
	}
}

func TestJoinNoToken(t *testing.T) {
	for own, texts := range textsOfKinds() {
		for _, text := range texts {
			for _, kind := range slices.Concat(allKinds, wrongKinds) {
				l := []api.Token{{Kind: kind, Text: text, N: 5}}
				switch {
				case kind == api.TInt:
					wantJoin(t, l, "5 ", api.OK)
				case kind == own && own != 0:
					wantJoin(t, l, text+" ", api.OK)
				default:
					wantJoin(t, l, "", api.ErrArg)
				}
			}
		}
	}
}

func TestJoinNoTokenAnywhere(t *testing.T) {
	for i := range 5 {
		l := []api.Token{name("a", 0), number(1, 0), sign("=", 0), word("in", 0), con("A", 0)}
		l[i] = name("a b", 0)
		wantJoin(t, l, "", api.ErrArg)
		l[i] = api.Token{}
		wantJoin(t, l, "", api.ErrArg)
	}
}

func TestJoinNotLookedAt(t *testing.T) {
	for _, at := range []int{math.MinInt, -1, 0, 1, 16384, 16385, 1 << 32, math.MaxInt} {
		for _, n := range []int64{math.MinInt64, -1, 0, 1, math.MaxInt64} {
			wantJoin(t, []api.Token{{Kind: api.TName, Text: "a", N: n, At: at}, {Kind: api.TCon, Text: "A", N: n, At: at}, {Kind: api.TPrim, Text: "#a", N: n, At: at}, {Kind: api.TSign, Text: "=", N: n, At: at}, {Kind: api.TWord, Text: "of", N: n, At: at}}, "a A #a = of ", api.OK)
		}
		for _, text := range []string{"", "7", "-7", "a", "?", " ", "\xff", strings.Repeat("a", 40000)} {
			wantJoin(t, []api.Token{{Kind: api.TInt, Text: text, N: -3, At: at}}, "-3 ", api.OK)
		}
	}
}

func TestJoinBig(t *testing.T) {
	signs := slices.Repeat([]api.Token{sign(";", 0)}, 8192) // two bytes each: 16384
	wantJoin(t, signs, strings.Repeat("; ", 8192), api.OK)
	wantJoin(t, signs[:8191], strings.Repeat("; ", 8191), api.OK)
	wantJoin(t, slices.Concat(signs, []api.Token{number(1, 0)}), "", api.ErrBig)
	for _, i := range []int{0, 1, 4096, 8190, 8191} {
		l := slices.Clone(signs)
		l[i] = number(10, 0) // one byte more: 16385
		wantJoin(t, l, "", api.ErrBig)
	}
	// 496 names of 33 bytes with their blanks are 16368 bytes: there is room for 16 more.
	names := slices.Repeat([]api.Token{name(strings.Repeat("a", 32), 0)}, 496)
	written := strings.Repeat(strings.Repeat("a", 32)+" ", 496)
	wantJoin(t, append(slices.Clone(names), con("Abcdefghijklmno", 0)), written+"Abcdefghijklmno ", api.OK)
	wantJoin(t, append(slices.Clone(names), con("Abcdefghijklmnop", 0)), "", api.ErrBig)
	wantJoin(t, append(slices.Clone(names), number(-12345678901234, 0)), written+"-12345678901234 ", api.OK)
	wantJoin(t, append(slices.Clone(names), number(-123456789012345, 0)), "", api.ErrBig)
	wantJoin(t, append(slices.Clone(names), number(1234567, 0), number(1234567, 0)), written+"1234567 1234567 ", api.OK)
	wantJoin(t, append(slices.Clone(names), number(1234567, 0), number(12345678, 0)), "", api.ErrBig)
	wantJoin(t, slices.Repeat(names, 100), "", api.ErrBig)
}

// ErrArg is named ahead of ErrBig, wherever what is no token stands.
func TestJoinBigAndNoToken(t *testing.T) {
	l := slices.Repeat([]api.Token{sign(";", 0)}, 9000)
	for _, i := range []int{0, 1, 8191, 8192, 8193, 8999} {
		wrong := slices.Clone(l)
		wrong[i] = api.Token{Kind: api.TSign, Text: ","}
		wantJoin(t, wrong, "", api.ErrArg)
		wrong[i] = api.Token{Kind: 7, Text: ";"}
		wantJoin(t, wrong, "", api.ErrArg)
	}
}

// R3: the list that is handed in, and the room behind it, stay as they are.
func TestJoinLeavesRoomBehind(t *testing.T) {
	room := []api.Token{name("a", 3), number(1, 4), sign("=", 5), {Kind: 9, Text: "?", N: 2, At: 6}}
	before := slices.Clone(room)
	if s, e := lex.Join(room[:2]); s != "a 1 " || e != api.OK {
		t.Errorf("Join: %q, %d", s, int(e))
	}
	if !slices.Equal(room, before) {
		t.Errorf("Join changed %v to %v", before, room)
	}
}

// P5.4

func someTokens() []api.Token {
	l := []api.Token{number(0, 0), number(7, 0), number(-7, 0), number(math.MaxInt64, 0), number(math.MinInt64, 0)}
	for kind, texts := range textsOfKinds() {
		if kind == 0 {
			continue
		}
		for _, s := range texts {
			l = append(l, api.Token{Kind: kind, Text: s})
		}
	}
	slices.SortFunc(l, func(a, b api.Token) int { return strings.Compare(a.Text, b.Text) })
	return l
}

func thereAndBack(t *testing.T, l []api.Token) {
	t.Helper()
	s, e := lex.Join(l)
	if e != api.OK {
		t.Errorf("Join of %v: %d", l, int(e))
		return
	}
	back, at, e := lex.Scan(s)
	if e != api.OK || at != 0 || !slices.Equal(withoutAt(back), l) {
		t.Errorf("Scan of %s: %v, %d, %d; want %v", short(s), back, at, int(e), l)
	}
}

func TestThereAndBack(t *testing.T) {
	all := someTokens()
	thereAndBack(t, nil)
	thereAndBack(t, all)
	for _, a := range all {
		thereAndBack(t, []api.Token{a})
		for _, b := range all {
			thereAndBack(t, []api.Token{a, b})
		}
	}
	thereAndBack(t, slices.Repeat([]api.Token{sign("->", 0), number(-1, 0)}, 2730))
	thereAndBack(t, slices.Repeat([]api.Token{number(5, 0)}, 8192))
}

func TestThereAndBackOfTexts(t *testing.T) {
	scanned := 0
	for _, s := range chanceTexts(5000) {
		if l, _, e := lex.Scan(s); e == api.OK {
			scanned++
			thereAndBack(t, withoutAt(l))
		}
	}
	if scanned < 500 {
		t.Errorf("only %d texts were scanned", scanned)
	}
}

// P5.5

var betweens = []string{" ", "\t", "\n", "\r", "  ", " \r\n\t", "--\n", "-- ?\n", " --\n--\n ", "---\n", "-->\n", "--é\xff\x00\r\n", "--a -- b\n", "--1\n--\n\n"}

func TestBlanksBetween(t *testing.T) {
	l := []api.Token{name("f", 0), sign("=", 0), sign("\\", 0), con("A1", 0), sign("->", 0), number(-1, 0), prim("#x", 0), number(2, 0), word("let", 0), sign("->", 0), sign(";", 0), sign(")", 0)}
	texts := []string{"f", "=", "\\", "A1", "->", "-1", "#x", "2", "let", "->", ";", ")"}
	r := rand.New(rand.NewSource(55))
	for range 2000 {
		var b strings.Builder
		want := slices.Clone(l)
		for i, text := range texts {
			for range 1 + r.Intn(3) {
				b.WriteString(betweens[r.Intn(len(betweens))])
			}
			want[i].At = b.Len()
			b.WriteString(text)
		}
		wantTokens(t, b.String(), want...)
		wantTokens(t, b.String()+betweens[r.Intn(len(betweens))], want...)
		wantTokens(t, b.String()+" -- the end", want...)
	}
}

func TestMoreBlanksChangeNothing(t *testing.T) {
	for _, s := range chanceTexts(2000) {
		l, _, e := lex.Scan(s)
		if e != api.OK {
			continue
		}
		for _, more := range betweens {
			wide := s
			for _, token := range slices.Backward(l) { // from the last on: places ahead of it stay
				wide = wide[:token.At] + more + wide[token.At:]
			}
			got, _, e := lex.Scan(wide)
			if e != api.OK || !slices.Equal(withoutAt(got), withoutAt(l)) {
				t.Errorf("Scan of %s: %v, %d; without %q it was %v", short(wide), got, int(e), more, l)
			}
		}
	}
}

// P5.6

func TestBeginning(t *testing.T) {
	texts := chanceTexts(400)
	texts = append(texts, "", "-- a", "a", "1", "-1", "->", "#a", "let", "a --", "=", "--", "\n", "f = \\ x -> x;")
	for _, first := range texts {
		l, _, e := lex.Scan(first)
		if e != api.OK {
			continue
		}
		for _, second := range texts {
			whole := first + "\n" + second
			rest, at, e := lex.Scan(second)
			got, gotAt, gotErr := lex.Scan(whole)
			if e != api.OK {
				if gotErr != e || gotAt != len(first)+1+at || len(got) != 0 {
					t.Errorf("Scan of %s: %v, %d, %d", short(whole), got, gotAt, int(gotErr))
				}
				continue
			}
			for i := range rest {
				rest[i].At += len(first) + 1
			}
			if gotErr != api.OK || gotAt != 0 || !slices.Equal(got, slices.Concat(l, rest)) {
				t.Errorf("Scan of %s: %v, %d, %d; want %v and %v", short(whole), got, gotAt, int(gotErr), l, rest)
			}
		}
	}
}

// R4: a call hangs on what it is given alone.
func TestAskedAgain(t *testing.T) {
	for range 3 {
		wantTokens(t, "a 1", name("a", 0), number(1, 2))
		wantFault(t, "a ?", 2, api.ErrToken)
		wantFault(t, strings.Repeat("x", 33), 0, api.ErrLong)
		wantJoin(t, []api.Token{name("a", 0), number(1, 2)}, "a 1 ", api.OK)
	}
}

// What the longest numbers and words are held against: the api's limits are the chapter's.
func TestLimits(t *testing.T) {
	if api.MaxBytes != 16384 || api.MaxName != 32 {
		t.Errorf("MaxBytes %d, MaxName %d", api.MaxBytes, api.MaxName)
	}
}
