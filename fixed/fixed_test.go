package fixed_test

import (
	"math"
	"math/big"
	"math/rand/v2"
	"regexp"
	"strings"
	"testing"

	"layout/api"
	"layout/fixed"
)

// numberForm is the form of a number, except that it admits "-0".
var numberForm = regexp.MustCompile(`^-?(0|[1-9][0-9]*)(\.[0-9]{0,2}[1-9])?$`)

func hasForm(s string) bool {
	return s != "-0" && numberForm.MatchString(s)
}

// thousandths returns the value of a text that has the form of a number.
func thousandths(t *testing.T, s string) *big.Int {
	t.Helper()
	value, ok := new(big.Rat).SetString(s)
	if !ok {
		t.Fatalf("%q is no number", s)
	}
	value.Mul(value, big.NewRat(1000, 1))
	if !value.IsInt() {
		t.Fatalf("%q is no number of thousandths", s)
	}
	return value.Num()
}

// samples returns ints of all sizes: each end of the range, the neighbors of
// the powers of two and of ten and of MaxCoord, and some between them.
func samples() []int {
	list := []int{0, math.MinInt, math.MinInt + 1, math.MaxInt - 1, math.MaxInt}
	around := func(n int) {
		for d := -1; d <= 1; d++ {
			list = append(list, n+d, -(n + d))
		}
	}
	for p := 1; p < 1<<62; p *= 4 {
		around(p)
	}
	for p := 10; p < math.MaxInt/10; p *= 10 {
		around(p)
		around(p / 2)
	}
	around(api.MaxCoord)
	random := rand.New(rand.NewPCG(1, 1))
	for range 50 {
		list = append(list, int(random.Uint64()>>random.IntN(64)), -int(random.Uint64()>>random.IntN(64)))
	}
	return list
}

// rounded returns p / q, rounded as the chapter says, from exact fractions.
func rounded(p, q *big.Int) *big.Int {
	half := new(big.Rat).SetFrac64(1, 2)
	value := new(big.Rat).SetFrac(p, q)
	sign := value.Sign()
	value.Abs(value).Add(value, half)
	floor := new(big.Int).Div(value.Num(), value.Denom())
	return floor.Mul(floor, big.NewInt(int64(sign)))
}

// limited returns the result that Mul and Div give for a rounded value.
func limited(value *big.Int) (int, api.Errno) {
	if value.CmpAbs(big.NewInt(api.MaxCoord)) > 0 {
		return 0, api.ErrOverflow
	}
	return int(value.Int64()), api.OK
}

func wantMul(a, b int) (int, api.Errno) {
	product := new(big.Int).Mul(big.NewInt(int64(a)), big.NewInt(int64(b)))
	return limited(rounded(product, big.NewInt(1000)))
}

func wantDiv(a, b int) (int, api.Errno) {
	if b == 0 {
		return 0, api.ErrArg
	}
	dividend := new(big.Int).Mul(big.NewInt(int64(a)), big.NewInt(1000))
	return limited(rounded(dividend, big.NewInt(int64(b))))
}

func checkMul(t *testing.T, a, b int) {
	t.Helper()
	got, e := fixed.Mul(a, b)
	if want, f := wantMul(a, b); got != want || e != f {
		t.Errorf("Mul(%d, %d): %d, %v, want %d, %v", a, b, got, e, want, f)
	}
}

func checkDiv(t *testing.T, a, b int) {
	t.Helper()
	got, e := fixed.Div(a, b)
	if want, f := wantDiv(a, b); got != want || e != f {
		t.Errorf("Div(%d, %d): %d, %v, want %d, %v", a, b, got, e, want, f)
	}
}

// P1.1
func TestFormat(t *testing.T) {
	for n, want := range map[int]string{
		12500: "12.5", -7: "-0.007", 3000: "3", 0: "0", // the chapter's examples
		1: "0.001", 10: "0.01", 100: "0.1", 1000: "1", 10000: "10", 1010: "1.01", 1001: "1.001", 100100: "100.1",
		-1: "-0.001", -10: "-0.01", -100: "-0.1", -1000: "-1", -999: "-0.999", -12340: "-12.34",
		math.MaxInt: "9223372036854775.807", math.MinInt: "-9223372036854775.808",
	} {
		if s := fixed.Format(n); s != want {
			t.Errorf("Format(%d): %q, want %q", n, s, want)
		}
	}
	list := samples()
	for n := -20000; n <= 20000; n++ {
		list = append(list, n)
	}
	for _, n := range list {
		s := fixed.Format(n)
		if !hasForm(s) {
			t.Errorf("Format(%d): %q does not have the form of a number", n, s)
		} else if value := thousandths(t, s); value.Cmp(big.NewInt(int64(n))) != 0 {
			t.Errorf("Format(%d): %q, which is %v thousandths", n, s, value)
		}
	}
}

// P1.2
func TestParse(t *testing.T) {
	for _, c := range []struct {
		s    string
		want int
		e    api.Errno
	}{
		{"0.5", 500, api.OK}, {"-0", 0, api.ErrSyntax}, {"1.", 0, api.ErrSyntax}, {"1.50", 0, api.ErrSyntax}, {"01", 0, api.ErrSyntax}, {".5", 0, api.ErrSyntax}, {"268435.457", 0, api.ErrOverflow}, // the chapter's examples
		{"0", 0, api.OK}, {"7", 7000, api.OK}, {"-7", -7000, api.OK}, {"10", 10000, api.OK}, {"907.08", 907080, api.OK}, {"0.001", 1, api.OK}, {"-0.001", -1, api.OK}, {"0.01", 10, api.OK}, {"1.101", 1101, api.OK}, {"-12.34", -12340, api.OK},
		{"268435.456", api.MaxCoord, api.OK}, {"-268435.456", -api.MaxCoord, api.OK}, {"268435.455", api.MaxCoord - 1, api.OK}, {"268435", 268435000, api.OK},
		{"-268435.457", 0, api.ErrOverflow}, {"268435.46", 0, api.ErrOverflow}, {"268435.5", 0, api.ErrOverflow}, {"268436", 0, api.ErrOverflow}, {"268440", 0, api.ErrOverflow}, {"-1000000", 0, api.ErrOverflow},
		{"18446744073709551.616", 0, api.ErrOverflow}, {"18446744073709551616", 0, api.ErrOverflow}, {"-18446744073709551617", 0, api.ErrOverflow}, {"4294967296.5", 0, api.ErrOverflow},
		{"", 0, api.ErrSyntax}, {"-", 0, api.ErrSyntax}, {".", 0, api.ErrSyntax}, {"-.", 0, api.ErrSyntax}, {"-.5", 0, api.ErrSyntax}, {"--1", 0, api.ErrSyntax}, {"+1", 0, api.ErrSyntax}, {"00", 0, api.ErrSyntax}, {"-01", 0, api.ErrSyntax}, {"00.5", 0, api.ErrSyntax},
		{"0.0", 0, api.ErrSyntax}, {"-0.0", 0, api.ErrSyntax}, {"1.000", 0, api.ErrSyntax}, {"1.230", 0, api.ErrSyntax}, {"0.0005", 0, api.ErrSyntax}, {"1.2345", 0, api.ErrSyntax}, {"1..2", 0, api.ErrSyntax}, {"1.2.3", 0, api.ErrSyntax}, {"1.-2", 0, api.ErrSyntax},
		{" 1", 0, api.ErrSyntax}, {"1 ", 0, api.ErrSyntax}, {"- 1", 0, api.ErrSyntax}, {"1\n", 0, api.ErrSyntax}, {"1\x00", 0, api.ErrSyntax}, {"1_000", 0, api.ErrSyntax}, {"1,5", 0, api.ErrSyntax}, {"1e3", 0, api.ErrSyntax}, {"0x1", 0, api.ErrSyntax}, {"Inf", 0, api.ErrSyntax},
		{"1\xff", 0, api.ErrSyntax}, {"\u0661", 0, api.ErrSyntax}, {"\u22121", 0, api.ErrSyntax}, {"1:", 0, api.ErrSyntax}, {"1/", 0, api.ErrSyntax}, {"1.5:", 0, api.ErrSyntax}, {"1.5/", 0, api.ErrSyntax},
	} {
		if n, e := fixed.Parse(c.s); n != c.want || e != c.e {
			t.Errorf("Parse(%q): %d, %v, want %d, %v", c.s, n, e, c.want, c.e)
		}
	}
}

// P1.2: ErrSyntax is named before ErrOverflow.
func TestParseOrderOfErrors(t *testing.T) {
	for _, s := range []string{"268436.", "268436.10", "0268436", "268436x", "99999999999999999999.0001", "-99999999999999999999-", "268436 "} {
		if n, e := fixed.Parse(s); n != 0 || e != api.ErrSyntax {
			t.Errorf("Parse(%q): %d, %v, want ErrSyntax", s, n, e)
		}
	}
}

// P1.2: the text may be of any length.
func TestParseLongTexts(t *testing.T) {
	const length = 1 << 20
	nines, zeros := strings.Repeat("9", length), strings.Repeat("0", length)
	for _, c := range []struct {
		name, s string
		want    api.Errno
	}{
		{"nines", nines, api.ErrOverflow},
		{"minus and nines", "-" + nines, api.ErrOverflow},
		{"nines and a fraction", nines + ".999", api.ErrOverflow},
		{"one and zeros", "1" + zeros, api.ErrOverflow},
		{"one, zeros and a fraction", "1" + zeros + ".5", api.ErrOverflow},
		{"nines and a letter", nines + "x", api.ErrSyntax},
		{"zeros", zeros, api.ErrSyntax},
		{"a fraction of zeros", "0." + zeros + "1", api.ErrSyntax},
		{"a fraction of nines", "0." + nines, api.ErrSyntax},
		{"minus signs", strings.Repeat("-", length), api.ErrSyntax},
	} {
		if n, e := fixed.Parse(c.s); n != 0 || e != c.want {
			t.Errorf("Parse of %s: %d, %v, want %v", c.name, n, e, c.want)
		}
	}
}

// P1.2 and P1.6: every text of up to six bytes of those that matter is
// accepted exactly if it has the form of a number, and is then the Format of
// its value.
func TestParseAllShortTexts(t *testing.T) {
	const letters = "-.015x"
	texts := []string{""}
	for range 6 {
		longer := []string{}
		for _, s := range texts {
			for i := range len(letters) {
				longer = append(longer, s+letters[i:i+1])
			}
		}
		for _, s := range longer {
			checkShortText(t, s)
		}
		texts = longer
	}
}

func checkShortText(t *testing.T, s string) {
	t.Helper()
	n, e := fixed.Parse(s)
	if !hasForm(s) {
		if n != 0 || e != api.ErrSyntax {
			t.Errorf("Parse(%q): %d, %v, want ErrSyntax", s, n, e)
		}
		return
	}
	if want, f := limited(thousandths(t, s)); n != want || e != f {
		t.Errorf("Parse(%q): %d, %v, want %d, %v", s, n, e, want, f)
	}
	if e == api.OK && fixed.Format(n) != s {
		t.Errorf("Format(%d): %q, want %q", n, fixed.Format(n), s)
	}
}

// P1.3
func TestMul(t *testing.T) {
	for _, c := range []struct {
		a, b, want int
		e          api.Errno
	}{
		{1500, 2500, 3750, api.OK}, {1, 500, 1, api.OK}, {-1, 500, -1, api.OK}, // the chapter's examples
		{1, 499, 0, api.OK}, {1, -499, 0, api.OK}, {-1, -500, 1, api.OK}, {3, 500, 2, api.OK}, {-5, 500, -3, api.OK}, {1, 1499, 1, api.OK}, {1, 1500, 2, api.OK}, {1, 1501, 2, api.OK},
		{0, math.MinInt, 0, api.OK}, {math.MaxInt, 0, 0, api.OK}, {math.MaxInt, 1, 0, api.ErrOverflow},
		{api.MaxCoord, 1000, api.MaxCoord, api.OK}, {-api.MaxCoord, 1000, -api.MaxCoord, api.OK}, {api.MaxCoord, 1001, 0, api.ErrOverflow},
		{1000*api.MaxCoord + 499, 1, api.MaxCoord, api.OK}, {1000*api.MaxCoord + 500, 1, 0, api.ErrOverflow}, {1000*api.MaxCoord + 499, -1, -api.MaxCoord, api.OK}, {1000*api.MaxCoord + 500, -1, 0, api.ErrOverflow},
		{1 << 32, 1 << 32, 0, api.ErrOverflow}, {math.MinInt, math.MinInt, 0, api.ErrOverflow}, {math.MinInt, math.MaxInt, 0, api.ErrOverflow}, {math.MaxInt, math.MaxInt, 0, api.ErrOverflow}, {math.MinInt, 2, 0, api.ErrOverflow}, {math.MinInt, -1, 0, api.ErrOverflow},
	} {
		if n, e := fixed.Mul(c.a, c.b); n != c.want || e != c.e {
			t.Errorf("Mul(%d, %d): %d, %v, want %d, %v", c.a, c.b, n, e, c.want, c.e)
		}
	}
	list := samples()
	for _, a := range list {
		for _, b := range list {
			checkMul(t, a, b)
		}
	}
	for a := -60; a <= 60; a++ {
		for b := -60; b <= 60; b++ {
			checkMul(t, 25*a, b)
		}
	}
}

// P1.3: products near those whose quotient by 1000 just needs, or just does
// not need, more than one word. Without care they wrap around to small ones.
func TestMulWrapAround(t *testing.T) {
	for shift := 62; shift <= 64; shift++ {
		for _, times := range []int64{1, 1000} {
			product := new(big.Int).Lsh(big.NewInt(times), uint(shift))
			for a := 1 << 11; a <= 1<<12; a++ {
				b := new(big.Int).Div(product, big.NewInt(int64(a)))
				checkMul(t, a, int(b.Int64()))
				checkMul(t, -a, int(b.Int64()-1))
				checkMul(t, a, int(b.Int64()+1))
			}
		}
	}
}

// P1.4
func TestDiv(t *testing.T) {
	for _, c := range []struct {
		a, b, want int
		e          api.Errno
	}{
		{1000, 3000, 333, api.OK}, {2, 3000, 1, api.OK}, // the chapter's examples
		{2000, 3000, 667, api.OK}, {-2, 3000, -1, api.OK}, {2, -3000, -1, api.OK}, {-2, -3000, 1, api.OK}, {1, 2000, 1, api.OK}, {-1, 2000, -1, api.OK}, {1, -2000, -1, api.OK}, {1, 2001, 0, api.OK}, {-1, 2001, 0, api.OK}, {3, 2000, 2, api.OK}, {1, 1, 1000, api.OK},
		{0, 5, 0, api.OK}, {0, math.MinInt, 0, api.OK}, {3, math.MinInt, 0, api.OK}, {math.MinInt, math.MinInt, 1000, api.OK}, {math.MaxInt, math.MinInt, -1000, api.OK}, {math.MinInt, math.MaxInt, -1000, api.OK}, {math.MaxInt, math.MaxInt, 1000, api.OK}, {1 << 62, math.MinInt, -500, api.OK},
		{0, 0, 0, api.ErrArg}, {1, 0, 0, api.ErrArg}, {-1, 0, 0, api.ErrArg}, {math.MinInt, 0, 0, api.ErrArg}, {math.MaxInt, 0, 0, api.ErrArg}, // named before ErrOverflow
		{api.MaxCoord, 1000, api.MaxCoord, api.OK}, {api.MaxCoord, -1000, -api.MaxCoord, api.OK}, {api.MaxCoord, 999, 0, api.ErrOverflow}, {api.MaxCoord + 1, 1000, 0, api.ErrOverflow}, {-api.MaxCoord - 1, 1000, 0, api.ErrOverflow},
		{2*api.MaxCoord + 1, 2000, 0, api.ErrOverflow}, {4*api.MaxCoord + 1, 4000, api.MaxCoord, api.OK}, {4*api.MaxCoord + 1, -4000, -api.MaxCoord, api.OK},
		{math.MaxInt, 1, 0, api.ErrOverflow}, {math.MinInt, 1, 0, api.ErrOverflow}, {math.MinInt, -1, 0, api.ErrOverflow}, {math.MinInt, -999, 0, api.ErrOverflow}, {1 << 61, 1, 0, api.ErrOverflow},
	} {
		if n, e := fixed.Div(c.a, c.b); n != c.want || e != c.e {
			t.Errorf("Div(%d, %d): %d, %v, want %d, %v", c.a, c.b, n, e, c.want, c.e)
		}
	}
	list := samples()
	for _, a := range list {
		for _, b := range list {
			checkDiv(t, a, b)
		}
	}
	for a := -60; a <= 60; a++ {
		for b := -60; b <= 60; b++ {
			checkDiv(t, a, 100*b)
			checkDiv(t, a, b)
		}
	}
}

// P1.5
func TestSqrt(t *testing.T) {
	for n, want := range map[int]int{24: 4, 0: 0, 1: 1, 2: 1, 3: 1, 4: 2, 25: 5, -1: 0, -4: 0, -25: 0, math.MinInt: 0, math.MaxInt: 3037000499} {
		if s := fixed.Sqrt(n); s != want {
			t.Errorf("Sqrt(%d): %d, want %d", n, s, want)
		}
	}
	root := 0
	for n := range 20000 {
		if (root+1)*(root+1) <= n {
			root++
		}
		if s := fixed.Sqrt(n); s != root {
			t.Errorf("Sqrt(%d): %d, want %d", n, s, root)
		}
	}
	for _, n := range samples() {
		want := 0
		if n > 0 {
			want = int(new(big.Int).Sqrt(big.NewInt(int64(n))).Int64())
		}
		if s := fixed.Sqrt(n); s != want {
			t.Errorf("Sqrt(%d): %d, want %d", n, s, want)
		}
	}
	for s := 1; s <= 3037000499; s += 1 + s/100 {
		if r := fixed.Sqrt(s * s); r != s {
			t.Errorf("Sqrt(%d): %d, want %d", s*s, r, s)
		}
		if r := fixed.Sqrt(s*s - 1); r != s-1 {
			t.Errorf("Sqrt(%d): %d, want %d", s*s-1, r, s-1)
		}
	}
}

// coordinates returns ints whose absolute value is at most MaxCoord.
func coordinates() []int {
	list := []int{-api.MaxCoord, 1 - api.MaxCoord, api.MaxCoord - 1, api.MaxCoord}
	for n := -2000; n <= 2000; n++ {
		list = append(list, n)
	}
	for n := -api.MaxCoord; n <= api.MaxCoord; n += 99991 {
		list = append(list, n)
	}
	return list
}

// P1.6: the other half is in TestParseAllShortTexts.
func TestParseOfFormat(t *testing.T) {
	for _, n := range coordinates() {
		if m, e := fixed.Parse(fixed.Format(n)); m != n || e != api.OK {
			t.Errorf("Parse(Format(%d)): %d, %v", n, m, e)
		}
	}
	for _, n := range samples() {
		if m, e := fixed.Parse(fixed.Format(n)); (n < -api.MaxCoord || n > api.MaxCoord) && (m != 0 || e != api.ErrOverflow) {
			t.Errorf("Parse(Format(%d)): %d, %v, want ErrOverflow", n, m, e)
		}
	}
}

// P1.7
func TestConsequencesOfMulAndDiv(t *testing.T) {
	for _, n := range coordinates() {
		if m, e := fixed.Mul(n, 1000); m != n || e != api.OK {
			t.Errorf("Mul(%d, 1000): %d, %v", n, m, e)
		}
		if m, e := fixed.Div(n, 1000); m != n || e != api.OK {
			t.Errorf("Div(%d, 1000): %d, %v", n, m, e)
		}
	}
	list := samples()
	for _, a := range list {
		for _, b := range list {
			m, e := fixed.Mul(a, b)
			if swapped, f := fixed.Mul(b, a); m != swapped || e != f {
				t.Errorf("Mul(%d, %d): %d, %v, but Mul(%d, %d): %d, %v", a, b, m, e, b, a, swapped, f)
			}
			if e == api.OK && !near(1000*m, a, b) {
				t.Errorf("Mul(%d, %d): %d, which differs by more than 500", a, b, m)
			}
		}
	}
}

// near reports whether n differs from a * b by at most 500.
func near(n, a, b int) bool {
	product := new(big.Int).Mul(big.NewInt(int64(a)), big.NewInt(int64(b)))
	difference := product.Sub(big.NewInt(int64(n)), product)
	return difference.CmpAbs(big.NewInt(500)) <= 0
}
