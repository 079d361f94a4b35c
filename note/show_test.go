package note

import (
	"math"
	"math/big"
	"strings"
	"testing"

	"graft/api"
)

func holdShow(t *testing.T, x float64) string {
	t.Helper()
	text, e := Show(x)
	if want := plainShow(x); e != api.OK || text != want {
		t.Fatalf("Show(%x) = %q, %d; want %q", x, text, e, want)
	}
	if y, e := Number(text); e != api.OK || y != x || len(text) > 25 {
		t.Fatalf("Number(Show(%x)) = %x, %d by %q", x, y, e, text)
	}
	minus, _ := Show(-x)
	if x != 0 && minus != strings.TrimPrefix("-"+text, "--") {
		t.Fatalf("Show(%x) = %q, but of the opposite %q", x, text, minus)
	}
	return text
}

func near(x float64) []float64 {
	return []float64{x, math.Nextafter(x, 0), math.Nextafter(x, math.Inf(1))}
}

func TestShowPowers(t *testing.T) {
	for e := -1074; e < 1024; e++ {
		for _, x := range near(math.Ldexp(1, e)) {
			holdShow(t, x)
			holdShow(t, -x)
		}
	}
	for e := -323; e <= 308; e++ {
		ten := plainTen(e)
		for _, x := range near(ten) {
			for _, times := range []float64{1, 2, 5, 9} {
				if y := x * times; !math.IsInf(y, 0) {
					holdShow(t, y)
				}
			}
		}
	}
}

func plainTen(e int) float64 {
	x, _ := plainNumber("1e" + big.NewInt(int64(e)).String())
	return x
}

func TestShowEdges(t *testing.T) {
	for i := range uint64(3000) {
		for _, b := range []uint64{i, 1<<52 - 1500 + i, 2<<52 - 1500 + i, math.Float64bits(math.MaxFloat64) - i, math.Float64bits(1e21) - 1500 + i, math.Float64bits(1e-6) - 1500 + i, math.Float64bits(9007199254740992) - 1500 + i} {
			holdShow(t, math.Float64frombits(b))
		}
		holdShow(t, float64(i))
		holdShow(t, float64(i)/1000)
	}
	r := sourceOf(3)
	for range 20000 {
		x := math.Float64frombits(r.Uint64())
		if !math.IsNaN(x) && !math.IsInf(x, 0) {
			holdShow(t, x)
		}
		holdShow(t, float64(r.Int64()))
		holdShow(t, float64(r.IntN(1<<30))/1024)
	}
}

// Where the point stands, at each number of digits.
func TestShowPoint(t *testing.T) {
	for _, digits := range []string{"1", "9", "12", "125", "12345678", "1234567890123456", "12345678901234567"} {
		k := len(digits)
		for n := -12; n <= 30; n++ {
			x, _ := plainNumber("0." + digits + "e" + big.NewInt(int64(n)).String())
			text := holdShow(t, x)
			plain := strings.Replace(strings.TrimLeft(text, "0."), ".", "", 1)
			if len(strings.TrimRight(plain, "0")) != k && !strings.Contains(text, "e") {
				continue // another 17 digits are nearer
			}
			if strings.Contains(text, "e") != (n > 21 || n < -5) {
				t.Errorf("Show of n = %d: %s", n, text)
			}
		}
	}
	for text, x := range map[string]float64{
		"0": 0, "1": 1, "-1": -1, "10": 10, "0.1": 0.1, "-0.1": -0.1, "12.5": 12.5, "100": 100,
		"100000000000000000000": 1e20, "1e+21": 1e21, "1e+22": 1e22, "1.5e+300": 1.5e300, "-1e+21": -1e21,
		"0.000001": 1e-6, "0.00000125": 1.25e-6, "1e-7": 1e-7, "1.25e-7": 1.25e-7, "-1.25e-7": -1.25e-7, "1e-10": 1e-10, "1e-100": 1e-100,
		"999999999999999900000": 999999999999999900000, "123456789012345680000": 123456789012345680000, "123456789012345.67": 123456789012345.67,
		"-1.2345678901234567e-100": -1.2345678901234567e-100, "0.000012345678901234568": 0.000012345678901234568, "-0.000012345678901234568": -0.000012345678901234568,
		"1.7976931348623157e+308": math.MaxFloat64, "5e-324": 5e-324, "1e-323": 1e-323, "1.5e-323": 1.5e-323, "2e-323": 2e-323, "2.225073858507201e-308": 2.225073858507201e-308, "2.2250738585072014e-308": 2.2250738585072014e-308,
		"5.684341886080802e-14": math.Ldexp(1, -44), "9007199254740992": 1 << 53, "9007199254740994": 1<<53 + 2, "9.5367431640625e-7": math.Ldexp(1, -20), "1e+23": 1e23, "9.999999999999997e+22": math.Nextafter(1e23, 0),
	} {
		if got, e := Show(x); got != text || e != api.OK {
			t.Errorf("Show(%v) = %q, %d; want %q", x, got, e, text)
		}
	}
	if got, e := Show(math.Copysign(0, -1)); got != "0" || e != api.OK {
		t.Errorf("Show(-0) = %q, %d", got, e)
	}
	for _, x := range []float64{math.NaN(), math.Inf(1), math.Inf(-1)} {
		if got, e := Show(x); got != "" || e != api.ErrRange {
			t.Errorf("Show(%v) = %q, %d", x, got, e)
		}
	}
}

// fractionOf is what a number's text says, exactly.
func fractionOf(text string) *big.Rat {
	v, ok := new(big.Rat).SetString(text)
	if !ok {
		panic(text)
	}
	return v
}

// digitsIn is how many digits a text has but for zeros at either end.
func digitsIn(text string) int {
	text, _, _ = strings.Cut(text, "e")
	text = strings.Trim(strings.Replace(text, ".", "", 1), "0")
	return len(text)
}

// reads says whether a fraction is read as x: it is nearer to x than to its neighbours, or as near and x is even.
func reads(v *big.Rat, x float64) bool {
	b := math.Float64bits(x)
	down := middle(exact(x), exact(math.Nextafter(x, 0)))
	up := new(big.Rat).SetInt(new(big.Int).Sub(new(big.Int).Lsh(big.NewInt(1), 1024), new(big.Int).Lsh(big.NewInt(1), 970)))
	if x != math.MaxFloat64 {
		up = middle(exact(x), exact(math.Nextafter(x, math.Inf(1))))
	}
	d, u := v.Cmp(down), v.Cmp(up)
	return d > 0 && u < 0 || b%2 == 0 && (d == 0 || u == 0)
}

// By exact fractions: no text with fewer digits is read as the number, and none with as many is nearer.
func TestShowExactly(t *testing.T) {
	r := sourceOf(4)
	xs := []float64{5e-324, 1e-323, 1.5e-323, 2e-323, 2.5e-323, 3e-323, 3.5e-323, math.MaxFloat64, 1e23, 9.5e22, 0.3, 1}
	for range 300 {
		x := math.Abs(math.Float64frombits(r.Uint64()))
		if !math.IsNaN(x) && !math.IsInf(x, 0) && x != 0 {
			xs = append(xs, x)
		}
		xs = append(xs, math.Ldexp(1, r.IntN(2098)-1074), float64(1+r.IntN(1<<20))*5e-324)
	}
	for _, x := range xs {
		text, _ := Show(x)
		v, k := fractionOf(text), digitsIn(text)
		if !reads(v, x) {
			t.Fatalf("%s is not read as %x", text, x)
		}
		far := new(big.Rat).Sub(v, exact(x))
		far.Abs(far)
		for digits := max(1, k-1); digits <= k; digits++ {
			for _, other := range around(x, digits) {
				if !reads(other, x) {
					continue
				}
				if digits < k {
					t.Fatalf("Show(%x) = %s, but %s has fewer digits", x, text, other.FloatString(20))
				}
				distance := new(big.Rat).Sub(other, exact(x))
				if distance.Abs(distance).Cmp(far) < 0 {
					t.Fatalf("Show(%x) = %s, but another one of as many digits is nearer", x, text)
				}
			}
		}
	}
}

// around is the numbers of so many digits that are next to x, some on either side.
func around(x float64, digits int) []*big.Rat {
	text := new(big.Float).SetPrec(2000).SetRat(exact(x)).Text('e', 800)
	head, power, _ := strings.Cut(text, "e")
	s, _ := new(big.Int).SetString(strings.Replace(head, ".", "", 1)[:digits], 10)
	unit := fractionOf("1e" + power)
	unit.Quo(unit, new(big.Rat).SetInt(new(big.Int).Exp(big.NewInt(10), big.NewInt(int64(digits-1)), nil)))
	var out []*big.Rat
	for i := -9; i <= 9; i++ {
		n := new(big.Int).Add(s, big.NewInt(int64(i)))
		if n.Sign() > 0 && len(n.String()) == digits {
			out = append(out, new(big.Rat).Mul(new(big.Rat).SetInt(n), unit))
		}
	}
	// And the first one of the next power.
	return append(out, new(big.Rat).Mul(unit, new(big.Rat).SetInt(new(big.Int).Exp(big.NewInt(10), big.NewInt(int64(digits)), nil))))
}
