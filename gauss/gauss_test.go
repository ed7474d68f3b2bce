package gauss

import (
	"math"
	"math/big"
	"regexp"
	"strings"
	"testing"

	"carryall/api"
)

var (
	inf  = math.Inf(1)
	nan  = math.NaN()
	zero = math.Copysign(0, -1)
)

// ends are parts at both ends of the range, next to them, and around nought.
func ends() []int64 {
	return []int64{-Half, 1 - Half, -1025, -7, -1, 0, 1, 2, 724, 65536, Half - 2, Half - 1}
}

func numbers() []complex128 {
	var l []complex128
	for _, re := range ends() {
		for _, im := range ends() {
			l = append(l, complex(float64(re), float64(im)))
		}
	}
	return l
}

// few are numbers for tests that go through threes of them.
func few() []complex128 {
	return []complex128{0, 1, -1, 1i, -1i, 3 + 4i, -2 - 7i, complex(Half-1, -Half), complex(-Half, -Half), complex(-Half, Half-1), complex(Half-1, Half-1), 1025 - 65537i, -123456 + 500001i}
}

func nones() []complex128 {
	var l []complex128
	for _, p := range []float64{Half, Half + 1, -Half - 1, Half - 0.5, -Half - 0.25, 0.5, -0.5, 1.25, 1e-300, -5e-324, 1e18, -1e18, 1e300, math.MaxFloat64, inf, -inf, nan} {
		l = append(l, complex(p, 0), complex(0, p), complex(p, p), complex(-7, p), complex(p, Half-1))
	}
	return l
}

// same holds bits against each other: a part that is a negative zero is not what a call may answer.
func same(a, b complex128) bool {
	return math.Float64bits(real(a)) == math.Float64bits(real(b)) && math.Float64bits(imag(a)) == math.Float64bits(imag(b))
}

// around wraps by a remainder of big numbers, as the chapter's words say it.
func around(n *big.Int) int64 {
	m := new(big.Int).Add(n, big.NewInt(Half))
	return m.Mod(m, big.NewInt(2*Half)).Int64() - Half
}

func of(n int64) *big.Int {
	return big.NewInt(n)
}

func sum(a, b *big.Int) *big.Int {
	return new(big.Int).Add(a, b)
}

func less(a, b *big.Int) *big.Int {
	return new(big.Int).Sub(a, b)
}

func times(a, b *big.Int) *big.Int {
	return new(big.Int).Mul(a, b)
}

func made(re, im *big.Int) complex128 {
	return complex(float64(around(re)), float64(around(im)))
}

func bigs(z complex128) (re, im *big.Int) {
	return of(int64(real(z))), of(int64(imag(z)))
}

func TestP2_1_May(t *testing.T) {
	if Half != 524288 {
		t.Errorf("Half = %d", Half)
	}
	for _, z := range numbers() {
		if !May(z) {
			t.Errorf("May(%v) = false", z)
		}
	}
	for _, z := range nones() {
		if May(z) {
			t.Errorf("May(%v) = true", z)
		}
	}
}

func TestP2_1_NegativeZerosAreZeros(t *testing.T) {
	for _, z := range []complex128{complex(zero, 0), complex(0, zero), complex(zero, zero)} {
		if !May(z) {
			t.Errorf("May(%v) = false", z)
		}
		if re, im := Parts(z); re != 0 || im != 0 {
			t.Errorf("Parts(%v) = %d, %d", z, re, im)
		}
		if s := Text(z); s != "0+0i" {
			t.Errorf("Text(%v) = %q", z, s)
		}
		if x, y := Words(z); x != 0 || y != 0 {
			t.Errorf("Words(%v) = %d, %d", z, x, y)
		}
		for _, w := range []complex128{Add(z, z), Add(z, 0), Mul(z, z), Mul(z, 1), Mul(z, -1), Conj(z)} {
			if !same(w, 0) {
				t.Errorf("of %v comes %v", z, w)
			}
		}
		if n := Norm(z); n != 0 {
			t.Errorf("Norm(%v) = %d", z, n)
		}
	}
	for _, z := range []complex128{Conj(5), Mul(-1, 0), Mul(-3, 2), Add(-1i, 1i), Make(0, 0)} {
		if math.Signbit(imag(z)) {
			t.Errorf("a negative zero in %v", z)
		}
	}
}

func TestP2_1_MakeAndParts(t *testing.T) {
	for _, re := range ends() {
		for _, im := range ends() {
			z := Make(re, im)
			if !same(z, complex(float64(re), float64(im))) {
				t.Errorf("Make(%d, %d) = %v", re, im, z)
			}
			if r, i := Parts(z); r != re || i != im {
				t.Errorf("Parts(%v) = %d, %d", z, r, i)
			}
		}
	}
}

func TestP2_1_MakeWraps(t *testing.T) {
	for _, x := range []struct{ n, part int64 }{
		{Half, -Half}, {Half + 1, 1 - Half}, {-Half - 1, Half - 1}, {-Half - 2, Half - 2},
		{2 * Half, 0}, {-2 * Half, 0}, {2*Half - 1, -1}, {3 * Half, -Half}, {-3 * Half, -Half}, {3*Half - 1, Half - 1},
		{1 << 32, 0}, {1<<40 + 5, 5}, {-1<<40 - 5, -5},
		{math.MaxInt64, -1}, {math.MaxInt64 - Half, Half - 1}, {math.MaxInt64 - Half + 1, -Half}, {math.MinInt64, 0}, {math.MinInt64 + 1, 1},
	} {
		if z := Make(x.n, 3); !same(z, complex(float64(x.part), 3)) {
			t.Errorf("Make(%d, 3) = %v", x.n, z)
		}
		if z := Make(-4, x.n); !same(z, complex(-4, float64(x.part))) {
			t.Errorf("Make(-4, %d) = %v", x.n, z)
		}
		if n := around(of(x.n)); n != x.part {
			t.Errorf("around(%d) = %d", x.n, n)
		}
	}
}

func TestP2_1_PartsOfNone(t *testing.T) {
	for _, z := range nones() {
		if re, im := Parts(z); re != 0 || im != 0 {
			t.Errorf("Parts(%v) = %d, %d", z, re, im)
		}
	}
}

func TestP2_2_SumsAndProducts(t *testing.T) {
	for _, a := range numbers() {
		for _, b := range numbers() {
			ar, ai := bigs(a)
			br, bi := bigs(b)
			if z, w := Add(a, b), made(sum(ar, br), sum(ai, bi)); !same(z, w) {
				t.Fatalf("Add(%v, %v) = %v, not %v", a, b, z, w)
			}
			if z, w := Mul(a, b), made(less(times(ar, br), times(ai, bi)), sum(times(ar, bi), times(ai, br))); !same(z, w) {
				t.Fatalf("Mul(%v, %v) = %v, not %v", a, b, z, w)
			}
		}
	}
}

func TestP2_2_ConjAndNorm(t *testing.T) {
	for _, a := range numbers() {
		re, im := bigs(a)
		if z, w := Conj(a), made(re, less(of(0), im)); !same(z, w) {
			t.Errorf("Conj(%v) = %v, not %v", a, z, w)
		}
		if n, w := Norm(a), sum(times(re, re), times(im, im)); n != w.Uint64() {
			t.Errorf("Norm(%v) = %d, not %v", a, n, w)
		}
	}
	if n := Norm(complex(-Half, -Half)); n != 1<<39 {
		t.Errorf("the greatest norm = %d", n)
	}
	if z := Conj(complex(2, -Half)); !same(z, complex(2, -Half)) {
		t.Errorf("Conj at the lower end = %v", z)
	}
}

func TestP2_2_NonesCountAsNoughts(t *testing.T) {
	for _, z := range nones() {
		if w := Add(z, 3-4i); !same(w, 3-4i) {
			t.Errorf("Add(%v, 3-4i) = %v", z, w)
		}
		if w := Add(3-4i, z); !same(w, 3-4i) {
			t.Errorf("Add(3-4i, %v) = %v", z, w)
		}
		for _, w := range []complex128{Add(z, z), Mul(z, 3-4i), Mul(3-4i, z), Mul(z, z), Conj(z)} {
			if !same(w, 0) {
				t.Errorf("of %v comes %v", z, w)
			}
		}
		if n := Norm(z); n != 0 {
			t.Errorf("Norm(%v) = %d", z, n)
		}
	}
}

func TestP2_3_Words(t *testing.T) {
	for _, x := range []struct {
		z    complex128
		x, y uint32
	}{
		{0, 0, 0}, {1 + 2i, 1, 2}, {-1 + 2i, math.MaxUint32, 2}, {5 - 2i, 5, math.MaxUint32 - 1},
		{complex(Half-1, -Half), 0x7ffff, 0xfff80000}, {complex(-Half, Half-1), 0xfff80000, 0x7ffff},
	} {
		if a, b := Words(x.z); a != x.x || b != x.y {
			t.Errorf("Words(%v) = %d, %d", x.z, a, b)
		}
		if z := FromWords(x.x, x.y); !same(z, x.z) {
			t.Errorf("FromWords(%d, %d) = %v", x.x, x.y, z)
		}
	}
	for _, z := range nones() {
		if a, b := Words(z); a != 0 || b != 0 {
			t.Errorf("Words(%v) = %d, %d", z, a, b)
		}
	}
}

func TestP2_3_FromWordsWraps(t *testing.T) {
	for _, x := range []struct {
		w    uint32
		part float64
	}{
		{Half, -Half}, {Half + 1, 1 - Half}, {0xfff7ffff, Half - 1}, {1 << 20, 0}, {1<<20 + 9, 9},
		{math.MaxInt32, -1}, {1 << 31, 0}, {1<<31 + 1, 1}, {0xdeadbeef, float64(around(of(0xdeadbeef)))},
	} {
		if z := FromWords(x.w, 6); !same(z, complex(x.part, 6)) {
			t.Errorf("FromWords(%#x, 6) = %v", x.w, z)
		}
		if z := FromWords(6, x.w); !same(z, complex(6, x.part)) {
			t.Errorf("FromWords(6, %#x) = %v", x.w, z)
		}
	}
}

func textCases() map[string]complex128 {
	return map[string]complex128{
		"0+0i": 0, "1+0i": 1, "0+1i": 1i, "0-1i": -1i, "-1+0i": -1, "-2-7i": -2 - 7i, "10-20i": 10 - 20i, "-10+100i": -10 + 100i,
		"524287+524287i": complex(Half-1, Half-1), "-524288-524288i": complex(-Half, -Half), "524287-524288i": complex(Half-1, -Half), "-524288+524287i": complex(-Half, Half-1),
	}
}

func TestP2_3_Text(t *testing.T) {
	for s, z := range textCases() {
		if a := Text(z); a != s {
			t.Errorf("Text(%v) = %q", z, a)
		}
		if a, e := Parse(s); !same(a, z) || e != api.OK {
			t.Errorf("Parse(%q) = %v, %v", s, a, e)
		}
	}
	for _, z := range nones() {
		if s := Text(z); s != "" {
			t.Errorf("Text(%v) = %q", z, s)
		}
	}
}

func TestP2_3_ParseOfOtherTexts(t *testing.T) {
	for _, s := range []string{
		"", "i", "+", "-", "+i", "-i", "5", "5i", "+5i", "-5i", "-5", "1+1", "1-1", "1+i", "1-i", "+1i", "11i", "-+i", "--i",
		"00+0i", "01+1i", "1+01i", "1+00i", "-01+1i", "-0+0i", "0-0i", "-0-0i", "+1+1i", "+0+0i", "1++1i", "1+-1i", "1-+1i", "1--1i", "--1+1i", "-+1+1i",
		"524288+0i", "0+524288i", "-524289+0i", "0-524289i", "1048576+0i", "0+1048576i", "4294967296+0i", "0+4294967297i", "9223372036854775807+0i", "18446744073709551616+0i", "0-18446744073709551617i",
		" 1+1i", "1+1i ", "1 +1i", "1+ 1i", "1+1 i", "1+1i\n", "\n1+1i", "1+1ii", "i1+1i", "(1+1i)", "1+1I", "1+1j", "1+1i2", "1+1i+1i", "1+1+1i", "1i+1i", "1i+1",
		"1.0+1i", "1+1.0i", "1e1+1i", "0x1+1i", "1_0+1i", "1+0x1i", "1+1_0i", "1\x00+1i", "1+1\x00i", "1,0+1i", "１+1i", "1−1i", "NaN+NaNi", "Inf+0i", "0+Infi", "\xff", "1+1\xffi",
		strings.Repeat("9", 4000) + "+0i", "0+" + strings.Repeat("9", 4000) + "i", strings.Repeat("0", 4000) + "+0i", strings.Repeat("+", 4000), strings.Repeat("i", 4000),
	} {
		if z, e := Parse(s); !same(z, 0) || e != api.ErrGauss {
			t.Errorf("Parse(%q) = %v, %v", s, z, e)
		}
	}
}

// A text of few signs is a number's just if its form is the right one: no part of it is beyond the range.
func TestP2_3_ParseOfAllShortTexts(t *testing.T) {
	form := regexp.MustCompile(`^(0|-?[1-9][0-9]*)(\+0|[+-][1-9][0-9]*)i$`)
	texts := []string{""}
	for from := 0; from < len(texts); from++ {
		s := texts[from]
		z, e := Parse(s)
		switch ok := form.MatchString(s); {
		case ok && (e != api.OK || Text(z) != s), !ok && (e != api.ErrGauss || !same(z, 0)):
			t.Fatalf("Parse(%q) = %v, %v", s, z, e)
		}
		if len(s) < 6 {
			for _, c := range "019+-i" {
				texts = append(texts, s+string(c))
			}
		}
	}
}

func TestP2_4_Ring(t *testing.T) {
	for _, a := range few() {
		if !same(Add(a, 0), a) || !same(Mul(a, 1), a) || !same(Add(a, Mul(a, -1)), 0) {
			t.Errorf("0, 1 and -1 with %v", a)
		}
		for _, b := range few() {
			if !same(Add(a, b), Add(b, a)) || !same(Mul(a, b), Mul(b, a)) {
				t.Errorf("order of %v, %v", a, b)
			}
			if !same(Conj(Mul(a, b)), Mul(Conj(a), Conj(b))) {
				t.Errorf("the conjugate of the product of %v, %v", a, b)
			}
			for _, c := range few() {
				if !same(Add(Add(a, b), c), Add(a, Add(b, c))) || !same(Mul(Mul(a, b), c), Mul(a, Mul(b, c))) {
					t.Errorf("brackets of %v, %v, %v", a, b, c)
				}
				if !same(Mul(a, Add(b, c)), Add(Mul(a, b), Mul(a, c))) {
					t.Errorf("%v over the sum of %v, %v", a, b, c)
				}
			}
		}
	}
}

func TestP2_4_ThereAndBack(t *testing.T) {
	for _, z := range append(numbers(), few()...) {
		if w := FromWords(Words(z)); !same(w, z) {
			t.Errorf("FromWords of Words of %v = %v", z, w)
		}
		if w, e := Parse(Text(z)); !same(w, z) || e != api.OK {
			t.Errorf("Parse of Text of %v = %v, %v", z, w, e)
		}
		if w := Make(Parts(z)); !same(w, z) {
			t.Errorf("Make of Parts of %v = %v", z, w)
		}
	}
}

func TestExamplesOfLayer2(t *testing.T) {
	if z := Mul(2+3i, 4-1i); !same(z, 11+10i) {
		t.Error(z)
	}
	if z := Add(524287, 1); !same(z, -524288) {
		t.Error(z)
	}
	if n := Norm(3 + 4i); n != 25 {
		t.Error(n)
	}
	if s := Text(-2 - 7i); s != "-2-7i" {
		t.Error(s)
	}
	if z, e := Parse("5"); z != 0 || e != api.ErrGauss {
		t.Error(z, e)
	}
	if x, y := Words(-1 + 2i); x != 4294967295 || y != 2 {
		t.Error(x, y)
	}
}
