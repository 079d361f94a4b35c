package note

import (
	"math"
	"math/big"
	"strings"
	"testing"

	"graft/api"
)

func holdNumber(t *testing.T, text string) {
	t.Helper()
	x, e := Number(text)
	want, we := plainNumber(text)
	if x != want || e != we {
		t.Fatalf("Number(%q) = %v, %d; want %v, %d", text, x, e, want, we)
	}
}

// words over some letters, up to a length.
func everyWord(letters []string, most int, do func(string)) {
	var grow func(string, int)
	grow = func(word string, left int) {
		do(word)
		if left == 0 {
			return
		}
		for _, l := range letters {
			grow(word+l, left-1)
		}
	}
	grow("", most)
}

func TestNumberForms(t *testing.T) {
	everyWord(strings.Split("0 1 5 - + . e E", " "), 6, func(text string) { holdNumber(t, text) })
	for _, good := range []string{"-12.50e+1", "0.5", "10", "1e5", "0e0"} {
		for i := range len(good) + 1 {
			for c := range 256 {
				holdNumber(t, good[:i]+string([]byte{byte(c)})+good[i:])
			}
		}
	}
	for _, bad := range []string{"", "-", "01", "-01", "+1", ".5", "1.", "1.e5", "1e", "1e+", "1e-", " 1", "1 ", "0x1", "1_0", "NaN", "Infinity", "inf", "1f", "1e5.0", "--1", "1..2", "١"} {
		if x, e := Number(bad); x != 0 || e != api.ErrNumber {
			t.Errorf("Number(%q) = %v, %d", bad, x, e)
		}
	}
}

func TestNumberLength(t *testing.T) {
	for _, form := range []struct{ head, one, tail string }{
		{"", "1", ""}, {"-", "9", ""}, {"0.", "0", "1"}, {"0.", "3", ""}, {"1", "0", "e-38"}, {"1e", "0", "5"}, {"1e-", "0", "5"}, {"-0.", "0", ""}, {"1e", "9", ""}, {"1e-", "9", ""}, {"0e", "9", ""},
	} {
		for n := 38; n <= 43; n++ {
			text := form.head + strings.Repeat(form.one, n-len(form.head)-len(form.tail)) + form.tail
			holdNumber(t, text)
			if _, e := Number(text); (e == api.ErrNumber) != (n > 40) {
				t.Errorf("Number(%q) of %d bytes: %d", text, n, e)
			}
		}
	}
	if x, e := Number(strings.Repeat("1", 1<<20)); x != 0 || e != api.ErrNumber {
		t.Errorf("%v, %d", x, e)
	}
}

func TestNumberExponents(t *testing.T) {
	for _, digits := range []string{"0", "1", "-1", "9.99", "0.001", "-123.456", "5", "1.7976931348623157", "2.2250738585072014", "0.00000000000000000000000000001", "1000000000000000000000000000000"} {
		for _, power := range []string{"0", "00", "1", "9", "99", "290", "299", "300", "307", "308", "309", "310", "320", "323", "324", "325", "340", "343", "344", "345", "350", "353", "354", "400", "999", "1000", "1001", "9999", "99999999", "000308", "0000001"} {
			for _, e := range []string{"e", "E", "e+", "E+", "e-", "E-"} {
				holdNumber(t, digits+e+power)
			}
		}
	}
}

// exact is a float64 as a fraction.
func exact(x float64) *big.Rat { return new(big.Rat).SetFloat64(x) }

// middle is what lies halfway between two.
func middle(x, y *big.Rat) *big.Rat {
	s := new(big.Rat).Add(x, y)
	return s.Mul(s, big.NewRat(1, 2))
}

// cut is the beginning of a fraction's digits, so that the text has so many bytes, the text that is one greater in its last digit, and whether nothing was cut off.
func cut(v *big.Rat, size int) (string, string, bool) {
	text := new(big.Float).SetPrec(3000).SetRat(v).Text('e', 800)
	digits, power, _ := strings.Cut(text, "e")
	room := size - len(power) - 1
	whole := strings.TrimRight(digits[room:], "0") == ""
	n, _ := new(big.Int).SetString(strings.Replace(digits[:room], ".", "", 1), 10)
	up := n.Add(n, big.NewInt(1)).String()
	return digits[:room] + "e" + power, up[:1] + "." + up[1:] + "e" + power, whole
}

// Right below and right above the middle of two neighbours each is read as the nearer one; where the middle itself fits, as the even one.
func TestNumberHalfway(t *testing.T) {
	r := sourceOf(1)
	bits := []uint64{0, 1, 2, 3, 1<<52 - 1, 1 << 52, 1<<52 + 1, 2<<52 - 1, 2 << 52, math.Float64bits(math.MaxFloat64) - 1, math.Float64bits(1) - 1, math.Float64bits(1)}
	for e := range uint64(2046) {
		bits = append(bits, e<<52|r.Uint64()>>12, e<<52, e<<52-1&^(1<<63))
	}
	ties := 0
	for _, b := range bits {
		x, y := math.Float64frombits(b), math.Float64frombits(b+1)
		if math.IsInf(y, 0) || math.IsNaN(y) || math.IsNaN(x) {
			continue
		}
		below, above, whole := cut(middle(exact(x), exact(y)), 39)
		even := x
		if b%2 == 1 {
			even = y
		}
		want := x
		if whole {
			want, ties = even, ties+1
		}
		for _, sign := range []string{"", "-"} {
			if got, e := Number(sign + below); e != api.OK || math.Abs(got) != want {
				t.Fatalf("Number(%s) = %v, %d; want %v", below, got, e, want)
			}
		}
		if got, e := Number(above); e != api.OK || got != y {
			t.Fatalf("Number(%s) = %v, %d; want %v", above, got, e, y)
		}
	}
	if ties < 200 {
		t.Errorf("only %d middles fit", ties)
	}
}

// Middles that fit whole: whole numbers of 54 and more bits, and halves.
func TestNumberTies(t *testing.T) {
	for shift := range 60 {
		for _, m := range []int64{1 << 52, 1<<52 + 1, 1<<53 - 2, 1<<53 - 1, 5629499534213121, 5629499534213122} {
			x := math.Ldexp(float64(m), shift)
			y := math.Nextafter(x, math.Inf(1))
			mid := middle(exact(x), exact(y))
			text := strings.TrimSuffix(mid.FloatString(1), ".0")
			if len(text) > 39 {
				continue
			}
			want := x
			if m%2 == 1 {
				want = y
			}
			for sign, s := range map[string]float64{"": 1, "-": -1} {
				if got, e := Number(sign + text); e != api.OK || got != want*s {
					t.Errorf("Number(%s%s) = %v, %d; want %v", sign, text, got, e, want*s)
				}
			}
			if len(text) > 37 { // no room for a point and two digits more
				continue
			}
			if !strings.Contains(text, ".") {
				text += "."
			}
			if got, e := Number(text + "01"); e != api.OK || got != y {
				t.Errorf("Number(%s01) = %v, %d; want %v", text, got, e, y)
			}
		}
	}
}

// The bounds: 2^1024 - 2^970, and half of the least float64. Both have more digits than a text may have: right below and right above.
func TestNumberBounds(t *testing.T) {
	top := new(big.Int).Sub(new(big.Int).Lsh(big.NewInt(1), 1024), new(big.Int).Lsh(big.NewInt(1), 970))
	least := exact(math.SmallestNonzeroFloat64)
	for _, x := range []struct {
		at           *big.Rat
		below, above float64
		e            api.Errno
	}{
		{new(big.Rat).SetInt(top), math.MaxFloat64, 0, api.ErrRange},
		{new(big.Rat).Mul(least, big.NewRat(1, 2)), 0, math.SmallestNonzeroFloat64, api.OK},
		{new(big.Rat).Mul(least, big.NewRat(3, 2)), math.SmallestNonzeroFloat64, 2 * math.SmallestNonzeroFloat64, api.OK},
	} {
		for i, sign := range []string{"", "-"} {
			below, above, whole := cut(x.at, 40-i)
			if got, e := Number(sign + below); whole || e != api.OK || math.Abs(got) != x.below {
				t.Errorf("Number(%s%s) = %v, %d", sign, below, got, e)
			}
			if got, e := Number(sign + above); e != x.e || math.Abs(got) != x.above {
				t.Errorf("Number(%s%s) = %v, %d", sign, above, got, e)
			}
		}
	}
	for _, text := range []string{"1e309", "-1e309", "1e400", "-1e400", "2e308", "1.8e308", "17976931348623158079372897140530342e274", "1e9999999999999999999999999999999999999", "0.0000000000000000000000000001e9999999"} {
		if x, e := Number(text); x != 0 || e != api.ErrRange {
			t.Errorf("Number(%s) = %v, %d", text, x, e)
		}
	}
	for _, text := range []string{"-0", "0", "0.0", "-0.0e-0", "0e99999", "-0E+999999999999999999999999999999999999", "1e-99999", "-1e-400", "1e-9999999999999999999999999999999999999", "1000000000000000000000000000000e-9999999"} {
		if x, e := Number(text); x != 0 || e != api.OK {
			t.Errorf("Number(%s) = %v, %d", text, x, e)
		}
	}
}

func TestNumberSamples(t *testing.T) {
	r := sourceOf(2)
	for range 40000 {
		digits := ""
		for range 1 + r.IntN(30) {
			digits += string(rune('0' + r.IntN(10)))
		}
		text := strings.TrimLeft(digits, "0")
		if text == "" {
			text = "0"
		}
		if r.IntN(2) == 0 {
			text += "." + digits[:1+r.IntN(min(len(digits), 5))]
		}
		if r.IntN(3) > 0 {
			text += []string{"e", "E", "e-", "e+", "E-"}[r.IntN(5)] + digits[:1+r.IntN(min(len(digits), 3))]
		}
		if r.IntN(2) == 0 {
			text = "-" + text
		}
		holdNumber(t, text)
	}
}

func TestInt(t *testing.T) {
	const most = 9007199254740991
	for _, x := range []struct {
		num  float64
		want int
		ok   bool
	}{
		{0, 0, true}, {math.Copysign(0, -1), 0, true}, {1, 1, true}, {-1, -1, true}, {most, most, true}, {-most, -most, true}, {most - 1, most - 1, true},
		{most + 1, 0, false}, {-most - 1, 0, false}, {most + 3, 0, false}, {1e300, 0, false}, {-1e300, 0, false}, {math.MaxFloat64, 0, false},
		{1 << 63, 0, false}, {-1 << 63, 0, false}, {1 << 62, 0, false}, {0.5, 0, false}, {-0.5, 0, false}, {1e-300, 0, false}, {5e-324, 0, false}, {4503599627370495.5, 0, false}, {-4503599627370495.5, 0, false},
		{math.NaN(), 0, false}, {math.Inf(1), 0, false}, {math.Inf(-1), 0, false}, {65536, 65536, true},
	} {
		if got, ok := Int(numNote(x.num)); got != x.want || ok != x.ok {
			t.Errorf("Int(%v) = %d, %v", x.num, got, ok)
		}
		// Other fields are not looked at.
		full := api.Note{Kind: api.NoteNumber, Num: x.num, Bool: true, Text: "\xff", List: []api.Note{{}}, Fields: []api.Field{{}}}
		if got, ok := Int(full); got != x.want || ok != x.ok {
			t.Errorf("Int(%v) with other fields = %d, %v", x.num, got, ok)
		}
		for _, kind := range []int{-3, 0, 1, 2, 4, 5, 6, 7} {
			if got, ok := Int(api.Note{Kind: kind, Num: x.num}); got != 0 || ok {
				t.Errorf("Int of kind %d: %d, %v", kind, got, ok)
			}
		}
	}
}
