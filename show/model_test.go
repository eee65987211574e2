package show_test

import (
	"fmt"
	"reflect"
	"regexp"
	"slices"
	"strconv"
	"strings"
	"testing"

	"midden/api"
	"midden/lex"
	"midden/show"
)

// The words of each kind, as chapter 5 has them.
var words = map[int]*regexp.Regexp{
	api.TName: regexp.MustCompile(`\A[a-z][a-zA-Z0-9_]{0,31}\z`),
	api.TCon:  regexp.MustCompile(`\A[A-Z][a-zA-Z0-9_]{0,31}\z`),
	api.TPrim: regexp.MustCompile(`\A#[a-z][a-zA-Z0-9_]{0,30}\z`),
}

var reserved = []string{"let", "in", "case", "of", "data"}

func isWord(s string, kind int) bool {
	return words[kind].MatchString(s) && !slices.Contains(reserved, s)
}

// A piece of a text: something that is written, with what stands behind it; or a fault that stands there.
type piece struct {
	text string
	e    api.Errno
}

// put makes pieces of a text's fields.
func put(text string) []piece {
	var all []piece
	for _, field := range strings.Fields(text) {
		all = append(all, piece{text: field + " "})
	}
	return all
}

func fault(e api.Errno) []piece { return []piece{{e: e}} }

func wordOf(kind int, text string) []piece {
	if !isWord(text, kind) {
		return fault(api.ErrArg)
	}
	return put(text)
}

func wordsOf(l []string) []piece {
	var all []piece
	for _, text := range l {
		all = append(all, wordOf(api.TName, text)...)
	}
	return all
}

func numberOf(n int64) []piece { return put(strconv.FormatInt(n, 10)) }

// The rules of the grammar, one behind the other. Whatever is wrong stands where the thing of which it is said begins.
func piecesOf(p api.Program) []piece {
	var all []piece
	for _, d := range p.Datas {
		all = append(all, slices.Concat(put("data"), wordOf(api.TCon, d.Name), numberOf(int64(d.Arity)), []piece{{text: ";\n"}})...)
	}
	for _, b := range p.Binds {
		all = append(all, slices.Concat(bindPieces(b, 1), []piece{{text: ";\n"}})...)
	}
	return all
}

func bindPieces(b api.Bind, deep int) []piece {
	head := slices.Concat(wordOf(api.TName, b.Name), put("="))
	if len(b.Form.Args) > 0 {
		head = slices.Concat(head, put(`\`), wordsOf(b.Form.Args), put("->"))
	}
	return slices.Concat(head, expPieces(b.Form.Body, deep))
}

var headKind = map[int]int{api.XApp: api.TName, api.XCon: api.TCon, api.XPrim: api.TPrim}

func expPieces(x api.Exp, deep int) []piece {
	lacks := x.Kind == api.XLet && len(x.Binds) == 0 || x.Kind == api.XCase && len(x.Alts) == 0 ||
		(x.Kind == api.XLet || x.Kind == api.XCase) && len(x.Kids) == 0
	switch {
	case deep > 60:
		return fault(api.ErrNest)
	case lacks, x.Kind < 1, x.Kind > 6:
		return fault(api.ErrArg)
	case x.Kind == api.XInt:
		return numberOf(x.N)
	case x.Kind == api.XLet:
		var binds []piece
		for _, b := range x.Binds {
			binds = slices.Concat(binds, bindPieces(b, deep+1), put(";"))
		}
		return slices.Concat(put("let {"), binds, put("} in"), expPieces(x.Kids[0], deep+1))
	case x.Kind == api.XCase:
		var alts []piece
		for _, a := range x.Alts {
			alts = slices.Concat(alts, patternPieces(a), put("->"), expPieces(a.Body, deep+1), put(";"))
		}
		return slices.Concat(put("case"), expPieces(x.Kids[0], deep+1), put("of {"), alts, put("}"))
	}
	all := wordOf(headKind[x.Kind], x.Name)
	for _, a := range x.Atoms {
		if a.Name != "" {
			all = append(all, wordOf(api.TName, a.Name)...)
		} else {
			all = append(all, numberOf(a.N)...)
		}
	}
	return all
}

func patternPieces(a api.Alt) []piece {
	switch a.Kind {
	case api.ACon:
		return slices.Concat(wordOf(api.TCon, a.Name), wordsOf(a.Vars))
	case api.AInt:
		return numberOf(a.N)
	case api.AAll:
		return wordOf(api.TName, a.Name)
	}
	return fault(api.ErrArg)
}

// model says what a program is written as, however long that is; or the first fault of it.
func model(p api.Program) (string, api.Errno) {
	var text strings.Builder
	for _, one := range piecesOf(p) {
		if one.e != api.OK {
			return "", one.e
		}
		text.WriteString(one.text)
	}
	return text.String(), api.OK
}

// tokensOf reads a text of any length without lex's limit: each field of it is a token.
func tokensOf(t *testing.T, text string) []api.Token {
	t.Helper()
	all := []api.Token{}
	for _, field := range strings.Fields(text) {
		l, _, e := lex.Scan(field)
		if e != api.OK || len(l) != 1 {
			t.Fatalf("%q is no token", field)
		}
		l[0].At = 0
		all = append(all, l...)
	}
	return all
}

func short(s string) string {
	if len(s) > 300 {
		s = s[:200] + " .. " + s[len(s)-60:]
	}
	return strconv.Quote(s)
}

// wantError holds both functions to an error, with nothing beside it.
func wantError(t *testing.T, p api.Program, want api.Errno) {
	t.Helper()
	if l, e := show.Tokens(p); e != want || len(l) != 0 {
		t.Errorf("Tokens of %s: %d tokens, %d; want none, %d", short(fmt.Sprintf("%+v", p)), len(l), int(e), int(want))
	}
	if s, e := show.Print(p); e != want || s != "" {
		t.Errorf("Print of %s: %s, %d; want nothing, %d", short(fmt.Sprintf("%+v", p)), short(s), int(e), int(want))
	}
}

// wantTokens holds Tokens to what a text is, all of each token's fields.
func wantTokens(t *testing.T, p api.Program, text string) {
	t.Helper()
	l, e := show.Tokens(p)
	if want := tokensOf(t, text); e != api.OK || !slices.Equal(l, want) {
		t.Errorf("Tokens of %s: %s, %d", short(text), short(fmt.Sprintf("%+v", l)), int(e))
	}
}

// wantText holds both functions to a text: Print to all bytes of it.
func wantText(t *testing.T, p api.Program, text string) {
	t.Helper()
	wantTokens(t, p, text)
	if s, e := show.Print(p); e != api.OK || s != text {
		t.Errorf("Print: %s, %d; want %s", short(s), int(e), short(text))
	}
}

// byModel holds both functions to the model, and what was handed in to what it was.
func byModel(t *testing.T, p api.Program) {
	t.Helper()
	was := whole(p)
	text, e := model(p)
	switch {
	case e != api.OK:
		wantError(t, p, e)
	case len(text) > 16384:
		wantTokens(t, p, text)
		if s, e := show.Print(p); e != api.ErrBig || s != "" {
			t.Errorf("Print of %d bytes: %s, %d; want nothing, %d", len(text), short(s), int(e), int(api.ErrBig))
		}
	default:
		wantText(t, p, text)
	}
	if whole(p) != was {
		t.Errorf("%s was changed", short(text))
	}
}

// whole tells all that something is, with the spare room of its lists.
func whole(x any) string {
	var text strings.Builder
	tell(&text, reflect.ValueOf(x))
	return text.String()
}

func tell(text *strings.Builder, v reflect.Value) {
	switch v.Kind() {
	case reflect.Struct:
		for i := range v.NumField() {
			tell(text, v.Field(i))
		}
		text.WriteByte('.')
	case reflect.Slice:
		fmt.Fprintf(text, "[%d %d %v:", v.Len(), v.Cap(), v.IsNil())
		if v.Cap() > 0 {
			v = v.Slice(0, v.Cap())
		}
		for i := range v.Len() {
			tell(text, v.Index(i))
		}
		text.WriteByte(']')
	default:
		fmt.Fprintf(text, "%#v ", v.Interface())
	}
}
