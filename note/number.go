package note

import (
	"math/big"
	"math/bits"
	"strings"

	"graft/api"
)

// The float64s: m times 2 to the power e, m having mBits bits at most, e being eMin at least, and all of them below 2 to the power eEnd.
const (
	mBits = 53
	eMin  = -1074
	eEnd  = 1024
)

// span is how many bytes at a text's beginning belong to a number, and whether the number may end there; else a digit must come.
func span(text string) (int, bool) {
	at := 0
	if byteAt(text, at) == '-' {
		at++
	}
	first := at
	if byteAt(text, at) == '0' {
		at++
	} else if at = behindDigits(text, at); at == first {
		return at, false
	}
	if byteAt(text, at) == '.' {
		first = at + 1
		if at = behindDigits(text, first); at == first {
			return at, false
		}
	}
	if c := byteAt(text, at); c != 'e' && c != 'E' {
		return at, true
	}
	at++
	if c := byteAt(text, at); c == '+' || c == '-' {
		at++
	}
	first = at
	at = behindDigits(text, first)
	return at, at > first
}

// behindDigits is the place behind the digits that stand there, if any do.
func behindDigits(text string, at int) int {
	for isDigit(byteAt(text, at)) {
		at++
	}
	return at
}

func isDigit(c byte) bool {
	return c >= '0' && c <= '9'
}

// byteAt is the byte at a place, 0 behind the text's end.
func byteAt(text string, at int) byte {
	if at < len(text) {
		return text[at]
	}
	return 0
}

// nearest is the float64 that is nearest to what the text of a number says.
func nearest(text string) (float64, api.Errno) {
	text, minus := strings.CutPrefix(text, "-")
	num, den := fraction(text)
	m, e := rounded(num, den)
	if bits.Len64(m)+e > eEnd {
		return 0, api.ErrRange
	}
	x := float(m, e)
	if minus && m > 0 {
		return -x, api.OK
	}
	return x, api.OK
}

// fraction is what the text of a number without a sign says, as a numerator and a denominator.
func fraction(text string) (*big.Int, *big.Int) {
	power := 0
	if i := strings.IndexAny(text, "eE"); i >= 0 {
		text, power = text[:i], exponent(text[i+1:])
	}
	whole, part, _ := strings.Cut(text, ".")
	num, one := new(big.Int), big.NewInt(1)
	num.SetString(whole+part, 10)
	power -= len(part)
	if power < 0 {
		return num, tenTo(-power)
	}
	return num.Mul(num, tenTo(power)), one
}

// exponent is what stands behind an e, but no further from 0 than enough is: with MaxDigits digits ahead of it any number is beyond the float64s by then, or nearest to 0.
func exponent(text string) int {
	const enough = 1000
	n := 0
	for _, c := range strings.TrimLeft(text, "+-") {
		n = min(n*10+int(c-'0'), enough)
	}
	if strings.HasPrefix(text, "-") {
		return -n
	}
	return n
}

func tenTo(n int) *big.Int {
	return new(big.Int).Exp(big.NewInt(10), big.NewInt(int64(n)), nil)
}

// rounded is the m and e of the float64 that is nearest to a fraction. An m of 2 to the power mBits stands for half of it and an e of one more; an e may be greater than those of the float64s are.
func rounded(num, den *big.Int) (uint64, int) {
	e := max(num.BitLen()-den.BitLen()-mBits, eMin)
	m := divided(num, den, e)
	if m > 1<<mBits { // the fraction had one bit more than the lengths told
		e++
		m = divided(num, den, e)
	}
	return m, e
}

// divided is the whole number that is nearest to a fraction divided by 2 to the power e, of two the even one.
func divided(num, den *big.Int, e int) uint64 {
	if e < 0 {
		num = new(big.Int).Lsh(num, uint(-e))
	} else {
		den = new(big.Int).Lsh(den, uint(e))
	}
	q, r := new(big.Int).QuoRem(num, den, new(big.Int))
	m := q.Uint64()
	if half := r.Lsh(r, 1).Cmp(den); half > 0 || half == 0 && m%2 == 1 {
		m++
	}
	return m
}

// float is m times 2 to the power e. No step on the way loses a bit, since all of them are float64s that have this m.
func float(m uint64, e int) float64 {
	x := float64(m)
	for ; e > 0; e-- {
		x *= 2
	}
	for ; e < 0; e++ {
		x /= 2
	}
	return x
}
