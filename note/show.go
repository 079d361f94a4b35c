package note

import (
	"math/big"
	"strconv"
	"strings"
)

// shown is a number's text.
func shown(x float64) string {
	switch {
	case x == 0:
		return "0"
	case x < 0:
		return "-" + shown(-x)
	}
	return placed(shortest(x))
}

// placed is digits with their point ahead of the one at place n, or as a power of ten where that would be far away.
func placed(digits string, n int) string {
	const most, least = 21, -5
	k := len(digits)
	switch {
	case n >= k && n <= most:
		return digits + strings.Repeat("0", n-k)
	case n >= 1 && n <= most:
		return digits[:n] + "." + digits[n:]
	case n >= least && n <= 0:
		return "0." + strings.Repeat("0", -n) + digits
	}
	out := digits[:1]
	if k > 1 {
		out += "." + digits[1:]
	}
	out += "e"
	if n > 0 {
		out += "+"
	}
	return out + strconv.Itoa(n-1)
}

// digger digs the digits out of a number above 0: rest is what is left of it, whole is one of the place at which it digs, up and down are how far another number may be from it and still be read as it. At these bounds themselves it is, if its m is even.
type digger struct {
	rest, whole, up, down *big.Int
	even                  bool
}

// shortest is the fewest digits that are read as a number above 0, and the place of their point.
func shortest(x float64) (string, int) {
	m, e := parts(x)
	d := newDigger(m, e)
	n := magnitude(m, e)
	d.scale(n)
	for d.rest.Cmp(d.whole) >= 0 {
		d.scale(1)
		n++
	}
	digits := strconv.Itoa(d.digits())
	if digits == "10" { // a 9 was the first digit, and the next number up is nearer
		return "1", n + 1
	}
	return digits, n
}

// parts is the m and e of a float64 above 0, with the greatest m that it can have.
func parts(x float64) (int64, int) {
	e := 0
	for ; x >= 1<<mBits; e++ {
		x /= 2
	}
	for ; x < 1<<(mBits-1) && e > eMin; e-- {
		x *= 2
	}
	return int64(x), e
}

// newDigger reckons in quarters, as a power of two has its neighbour below half as far away as the one above.
func newDigger(m int64, e int) digger {
	d := digger{big.NewInt(4 * m), big.NewInt(4), big.NewInt(2), big.NewInt(2), m%2 == 0}
	if m == 1<<(mBits-1) && e > eMin {
		d.down.SetInt64(1)
	}
	if e < 0 {
		d.whole.Lsh(d.whole, uint(-e))
		return d
	}
	for _, a := range []*big.Int{d.rest, d.up, d.down} {
		a.Lsh(a, uint(e))
	}
	return d
}

// magnitude is an n for which m times 2 to the power e is at least 10 to the power n - 1, and not much more.
func magnitude(m int64, e int) int {
	// 78913 / 2^18 is a little below the logarithm of 2, and what is taken away is more than this can matter.
	low := big.NewInt(m).BitLen() - 1 + e
	return (low*78913-1000)>>18 + 1
}

// scale digs n places further up.
func (d *digger) scale(n int) {
	if n >= 0 {
		d.whole.Mul(d.whole, tenTo(n))
		return
	}
	ten := tenTo(-n)
	for _, a := range []*big.Int{d.rest, d.up, d.down} {
		a.Mul(a, ten)
	}
}

// digits digs until what it has, or the next number up, is read as the number.
func (d *digger) digits() int {
	out := 0
	for {
		d.scale(-1)
		q, rest := new(big.Int).QuoRem(d.rest, d.whole, new(big.Int))
		d.rest = rest
		out = out*10 + int(q.Int64())
		low := d.within(d.rest, d.down)
		left := new(big.Int).Sub(d.whole, d.rest)
		high := d.within(left, d.up)
		if !low && !high {
			continue
		}
		if near := d.rest.Cmp(left); !low || high && (near > 0 || near == 0 && out%2 == 1) {
			out++
		}
		return out
	}
}

// within says whether what is that far away is read as the number.
func (d *digger) within(far, bound *big.Int) bool {
	c := far.Cmp(bound)
	return c < 0 || c == 0 && d.even
}
