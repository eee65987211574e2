package prim_test

import (
	"math"
	"math/big"
	"slices"
	"strings"
	"testing"

	"midden/api"
	"midden/prim"
)

// told is a line of the chapter's table, its numbers written out.
type told struct {
	n     int
	name  string
	needs []int
}

var table = []told{
	{1, "#add", []int{2, 2}},
	{2, "#sub", []int{2, 2}},
	{3, "#mul", []int{2, 2}},
	{4, "#div", []int{2, 2}},
	{5, "#rem", []int{2, 2}},
	{6, "#eq", []int{2, 2}},
	{7, "#lt", []int{2, 2}},
	{8, "#emit", []int{2}},
	{9, "#seq", []int{1, 0}},
	{10, "#ref", []int{0}},
	{11, "#get", []int{3}},
	{12, "#set", []int{3, 0}},
	{13, "#arr", []int{2, 0}},
	{14, "#at", []int{4, 2}},
	{15, "#put", []int{4, 2, 0}},
	{16, "#len", []int{4}},
}

// Numbers of int that no primitive has; the lower bits of some are a primitive's number.
var noNumbers = []int{
	math.MinInt, math.MinInt + 1, math.MinInt + 7, math.MinInt + 16, -1 << 62, -1<<32 + 1, -1 << 32, -1 << 31, -256 + 4, -255, -17, -16, -7, -4, -2, -1,
	0, 17, 18, 19, 20, 31, 32, 33, 64 + 4, 128 + 1, 256, 256 + 1, 256 + 16, 1 << 16, 1<<16 + 5, 1<<31 - 1, 1 << 31, 1<<32 + 1, 1<<32 + 4, 1<<32 + 16, 1 << 62, math.MaxInt - 1, math.MaxInt,
}

// Places at which no primitive has an argument.
var noPlaces = []int{
	math.MinInt, math.MinInt + 1, -1 << 62, -1 << 32, -1<<32 + 1, -1 << 31, -256, -4, -3, -2, -1,
	3, 4, 5, 7, 8, 16, 256, 256 + 1, 1 << 31, 1 << 32, 1<<32 + 1, 1 << 62, math.MaxInt - 1, math.MaxInt,
}

// Numbers of int64 from all over its range, and each small one of both signs.
func numbers() []int64 {
	l := []int64{math.MinInt64, math.MinInt64 + 1, math.MinInt64 + 2, math.MaxInt64 - 1, math.MaxInt64, math.MinInt64 / 2, math.MaxInt64 / 2, math.MaxInt64/2 + 1, 3037000499, 3037000500, -3037000500, 6700417, -6700417, math.MinInt64 / 3, math.MaxInt64 / 7}
	for _, k := range []int{8, 16, 31, 32, 33, 52, 53, 61, 62} {
		for d := int64(-1); d <= 1; d++ {
			l = append(l, 1<<k+d, -1<<k+d)
		}
	}
	for n := int64(-12); n <= 12; n++ {
		l = append(l, n)
	}
	return l
}

// pairs calls f with each two numbers.
func pairs(f func(a, b int64)) {
	l := numbers()
	for _, a := range l {
		for _, b := range l {
			f(a, b)
		}
	}
}

// round is a number of any size modulo 2^64, as one in two's complement.
func round(x *big.Int) int64 {
	m := new(big.Int).Mod(x, new(big.Int).Lsh(big.NewInt(1), 64))
	if m.Bit(63) == 1 {
		m.Sub(m, new(big.Int).Lsh(big.NewInt(1), 64))
	}
	return m.Int64()
}

// holds is 1 of what is so, else 0.
func holds(is bool) int64 {
	if is {
		return 1
	}
	return 0
}

// rule says by the chapter's words, with numbers of any size, what Do answers.
func rule(n int, a, b int64) (int64, api.Errno) {
	x, y, z := big.NewInt(a), big.NewInt(b), new(big.Int)
	if n < 1 || n > 7 {
		return 0, 34
	}
	if (n == 4 || n == 5) && b == 0 {
		return 0, 40
	}
	switch n {
	case 1:
		z.Add(x, y)
	case 2:
		z.Sub(x, y)
	case 3:
		z.Mul(x, y)
	case 4:
		z.Quo(x, y)
	case 5:
		z.Sub(x, z.Mul(y, new(big.Int).Quo(x, y)))
	case 6:
		return holds(x.Cmp(y) == 0), 0
	case 7:
		return holds(x.Cmp(y) < 0), 0
	}
	return round(z), 0
}

// do is Do of what is right.
func do(t *testing.T, name string, a, b int64) int64 {
	t.Helper()
	got, e := prim.Do(prim.Find(name), a, b)
	if e != api.OK {
		t.Fatalf("%s %d %d: error %d", name, a, b, e)
	}
	return got
}

// P8.1

func TestNamesAndNumbersThereAndBack(t *testing.T) {
	for _, r := range table {
		if got := prim.Find(r.name); got != r.n {
			t.Errorf("Find(%q) = %d, not %d", r.name, got, r.n)
		}
		if got := prim.Name(r.n); got != r.name {
			t.Errorf("Name(%d) = %q, not %q", r.n, got, r.name)
		}
		if got := prim.Find(prim.Name(r.n)); got != r.n {
			t.Errorf("Find(Name(%d)) = %d", r.n, got)
		}
		// A name is its bytes, wherever they stand.
		if got := prim.Find(strings.Clone("x" + r.name + "x")[1 : 1+len(r.name)]); got != r.n {
			t.Errorf("Find of a piece that is %q = %d", r.name, got)
		}
	}
}

// near tells texts that are nearly a name.
func near(name string) []string {
	l := []string{
		name[1:], name[:len(name)-1], name + name, "#" + name, name + "#", name + " ", " " + name, name + "\x00", "\x00" + name, name + "\n",
		strings.ToUpper(name), name[:1] + strings.ToUpper(name[1:2]) + name[2:], name[:len(name)-1] + strings.ToUpper(name[len(name)-1:]),
		"＃" + name[1:], "$" + name[1:], name[1:] + "#", name + "s", name + "1", name + "_", name + "'", name + ";",
	}
	for i := range len(name) {
		for _, c := range []byte{0, ' ', '#', '0', 'z', '{', 0x7f, 0x80, 0xff, name[i] ^ 0x80, name[i] + 1, name[i] - 1} {
			l = append(l, name[:i]+string([]byte{c})+name[i+1:], name[:i]+string([]byte{c})+name[i:])
		}
		l = append(l, name[:i]+name[i+1:])
	}
	return l
}

func TestNoNameHasNumberNone(t *testing.T) {
	texts := []string{"", "#", "##", " ", "\x00", "#nope", "nope", "#lent", "#le", "#gt", "#ge", "#ne", "#neg", "#mod", "#and", "0", "1", "#1", "none", "#none", "add sub", "#add#sub", "#add #sub", "let", "main", "\xff\xfe", strings.Repeat("#", 1000), "#" + strings.Repeat("a", 1<<16)}
	for _, r := range table {
		texts = append(texts, near(r.name)...)
	}
	for _, s := range texts {
		if slices.ContainsFunc(table, func(r told) bool { return r.name == s }) {
			continue
		}
		if got := prim.Find(s); got != 0 {
			t.Errorf("Find(%q) = %d, not 0", s, got)
		}
	}
}

func TestNoShortTextIsNameButThoseOfTable(t *testing.T) {
	const letters = "#abcdefghijklmnopqrstuvwxyzA_"
	found := 0
	for _, a := range letters {
		for _, b := range letters {
			for _, c := range letters {
				for _, s := range []string{"#" + string(a), "#" + string(a) + string(b), "#" + string(a) + string(b) + string(c)} {
					want := 0
					for _, r := range table {
						if r.name == s {
							want = r.n
							found++
						}
					}
					if got := prim.Find(s); got != want {
						t.Fatalf("Find(%q) = %d, not %d", s, got, want)
					}
				}
			}
		}
	}
	if found == 0 {
		t.Error("no name was among the texts")
	}
}

func TestNoNumberHasEmptyName(t *testing.T) {
	for _, n := range noNumbers {
		if got := prim.Name(n); got != "" {
			t.Errorf("Name(%d) = %q", n, got)
		}
	}
	for n := 17; n < 5000; n++ {
		if prim.Name(n) != "" || prim.Name(-n) != "" {
			t.Errorf("Name(%d) = %q, Name(%d) = %q", n, prim.Name(n), -n, prim.Name(-n))
		}
	}
}

// P8.2

func TestArityIsTables(t *testing.T) {
	for _, r := range table {
		if got := prim.Arity(r.n); got != len(r.needs) {
			t.Errorf("Arity of %s = %d, not %d", r.name, got, len(r.needs))
		}
	}
	for _, n := range noNumbers {
		if got := prim.Arity(n); got != 0 {
			t.Errorf("Arity(%d) = %d, not 0", n, got)
		}
	}
}

func TestNeedIsTables(t *testing.T) {
	for _, r := range table {
		for i := -1; i <= 4; i++ {
			want := 0
			if i >= 0 && i < len(r.needs) {
				want = r.needs[i]
			}
			if got := prim.Need(r.n, i); got != want {
				t.Errorf("Need(%s, %d) = %d, not %d", r.name, i, got, want)
			}
		}
		for _, i := range noPlaces {
			if got := prim.Need(r.n, i); got != 0 {
				t.Errorf("Need(%s, %d) = %d, not 0", r.name, i, got)
			}
		}
	}
}

func TestNoneNeedsNothing(t *testing.T) {
	for _, n := range noNumbers {
		for _, i := range slices.Concat(noPlaces, []int{0, 1, 2}) {
			if got := prim.Need(n, i); got != 0 {
				t.Errorf("Need(%d, %d) = %d, not 0", n, i, got)
			}
		}
	}
}

// P8.3

func TestDoByHand(t *testing.T) {
	const least, greatest = math.MinInt64, math.MaxInt64
	for _, c := range []struct {
		name       string
		a, b, want int64
	}{
		{"#add", 2, 3, 5}, {"#add", -2, 3, 1}, {"#add", greatest, 1, least}, {"#add", least, -1, greatest}, {"#add", least, least, 0}, {"#add", greatest, greatest, -2}, {"#add", least, greatest, -1},
		{"#sub", 2, 3, -1}, {"#sub", 3, 2, 1}, {"#sub", least, 1, greatest}, {"#sub", greatest, -1, least}, {"#sub", 0, least, least}, {"#sub", -1, least, greatest}, {"#sub", least, least, 0},
		{"#mul", 6, 7, 42}, {"#mul", -6, 7, -42}, {"#mul", least, -1, least}, {"#mul", least, 2, 0}, {"#mul", greatest, greatest, 1}, {"#mul", 1 << 32, 1 << 32, 0}, {"#mul", 1 << 32, 1 << 31, least}, {"#mul", 0, least, 0},
		{"#div", 7, 2, 3}, {"#div", -7, 2, -3}, {"#div", 7, -2, -3}, {"#div", -7, -2, 3}, {"#div", 1, 2, 0}, {"#div", -1, 2, 0}, {"#div", 0, -5, 0}, {"#div", least, 1, least}, {"#div", least, -1, least}, {"#div", greatest, -1, -greatest}, {"#div", least, least, 1}, {"#div", greatest, least, 0}, {"#div", least, greatest, -1},
		{"#rem", 7, 2, 1}, {"#rem", -7, 2, -1}, {"#rem", 7, -2, 1}, {"#rem", -7, -2, -1}, {"#rem", 1, 2, 1}, {"#rem", -1, 2, -1}, {"#rem", 0, -5, 0}, {"#rem", least, 1, 0}, {"#rem", least, -1, 0}, {"#rem", greatest, -1, 0}, {"#rem", least, least, 0}, {"#rem", greatest, least, greatest}, {"#rem", least, greatest, -1},
		{"#eq", 5, 5, 1}, {"#eq", 5, 6, 0}, {"#eq", 0, 0, 1}, {"#eq", least, least, 1}, {"#eq", least, greatest, 0}, {"#eq", 1 << 32, 0, 0}, {"#eq", -1, 1, 0},
		{"#lt", 5, 6, 1}, {"#lt", 6, 5, 0}, {"#lt", 5, 5, 0}, {"#lt", -1, 0, 1}, {"#lt", 0, -1, 0}, {"#lt", least, greatest, 1}, {"#lt", greatest, least, 0}, {"#lt", least, least, 0}, {"#lt", -6, -5, 1},
	} {
		if got, e := prim.Do(prim.Find(c.name), c.a, c.b); got != c.want || e != api.OK {
			t.Errorf("%s %d %d = %d, error %d; not %d", c.name, c.a, c.b, got, e, c.want)
		}
	}
}

func TestDoIsChaptersWords(t *testing.T) {
	for n := 1; n <= 7; n++ {
		pairs(func(a, b int64) {
			want, wrong := rule(n, a, b)
			if got, e := prim.Do(n, a, b); got != want || e != wrong {
				t.Errorf("Do(%d, %d, %d) = %d, error %d; not %d, error %d", n, a, b, got, e, want, wrong)
			}
		})
	}
}

func TestDoOfSmallNumbers(t *testing.T) {
	for n := 1; n <= 7; n++ {
		for a := int64(-40); a <= 40; a++ {
			for b := int64(-40); b <= 40; b++ {
				want, wrong := rule(n, a, b)
				if got, e := prim.Do(n, a, b); got != want || e != wrong {
					t.Fatalf("Do(%d, %d, %d) = %d, error %d; not %d, error %d", n, a, b, got, e, want, wrong)
				}
			}
		}
	}
}

func TestOverNothingIsErrDiv(t *testing.T) {
	for _, name := range []string{"#div", "#rem"} {
		for _, a := range numbers() {
			if got, e := prim.Do(prim.Find(name), a, 0); got != 0 || e != api.ErrDiv {
				t.Errorf("%s %d 0 = %d, error %d", name, a, got, e)
			}
		}
	}
	// 0 is nothing to be afraid of anywhere else.
	for _, name := range []string{"#add", "#sub", "#mul", "#eq", "#lt"} {
		if _, e := prim.Do(prim.Find(name), 1, 0); e != api.OK {
			t.Errorf("%s 1 0: error %d", name, e)
		}
	}
}

func TestWhatIsNotOfNumbersIsErrPrim(t *testing.T) {
	others := slices.Concat(noNumbers, []int{8, 9, 10, 11, 12, 13, 14, 15, 16})
	for _, n := range others {
		for _, a := range []int64{math.MinInt64, -1, 0, 1, 7, math.MaxInt64} {
			// 0 among them: that nothing is divided there comes first.
			for _, b := range []int64{math.MinInt64, -1, 0, 1, 2, math.MaxInt64} {
				if got, e := prim.Do(n, a, b); got != 0 || e != api.ErrPrim {
					t.Errorf("Do(%d, %d, %d) = %d, error %d", n, a, b, got, e)
				}
			}
		}
	}
}

// P8.4

func TestQuotientAndRestMakeNumberAgain(t *testing.T) {
	pairs(func(a, b int64) {
		if b == 0 {
			return
		}
		q, r := do(t, "#div", a, b), do(t, "#rem", a, b)
		if again := do(t, "#add", do(t, "#mul", b, q), r); again != a {
			t.Errorf("%d times %d and %d is %d, not %d", b, q, r, again, a)
		}
		// With the sign put off as a number of any size, the least number too has one that is nearer to 0.
		if big.NewInt(r).CmpAbs(big.NewInt(b)) >= 0 {
			t.Errorf("#rem %d %d = %d, which is not nearer to 0 than %d", a, b, r, b)
		}
		if r != 0 && (r < 0) != (a < 0) {
			t.Errorf("#rem %d %d = %d, which has not the sign of %d", a, b, r, a)
		}
	})
}

func TestJustOneOfBelowSameAbove(t *testing.T) {
	pairs(func(a, b int64) {
		below, same, above := do(t, "#lt", a, b), do(t, "#eq", a, b), do(t, "#lt", b, a)
		for _, x := range []int64{below, same, above} {
			if x != 0 && x != 1 {
				t.Errorf("of %d and %d: %d", a, b, x)
			}
		}
		if below+same+above != 1 {
			t.Errorf("of %d and %d: below %d, same %d, above %d", a, b, below, same, above)
		}
		if do(t, "#eq", b, a) != same {
			t.Errorf("%d and %d are the same one way round only", a, b)
		}
	})
}

// The chapter's example.

func TestChaptersExample(t *testing.T) {
	if got := do(t, "#div", -7, 2); got != -3 {
		t.Errorf("#div -7 2 = %d", got)
	}
	if got := do(t, "#rem", -7, 2); got != -1 {
		t.Errorf("#rem -7 2 = %d", got)
	}
	if got := do(t, "#add", math.MaxInt64, 1); got != math.MinInt64 {
		t.Errorf("#add 2^63-1 1 = %d", got)
	}
	if got := prim.Need(prim.Find("#put"), 1); got != 2 {
		t.Errorf("Need(#put, 1) = %d", got)
	}
}
