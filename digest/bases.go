package digest

import (
	"graft/api"
)

// The digits of each base, by their values.
var (
	digits16 = [16]byte{'0', '1', '2', '3', '4', '5', '6', '7', '8', '9', 'a', 'b', 'c', 'd', 'e', 'f'}
	digits32 = [32]byte{
		'0', '1', '2', '3', '4', '5', '6', '7', '8', '9', 'a', 'b', 'c', 'd', 'f', 'g',
		'h', 'i', 'j', 'k', 'l', 'm', 'n', 'p', 'q', 'r', 's', 'v', 'w', 'x', 'y', 'z',
	}
	digits64 = [64]byte{
		'A', 'B', 'C', 'D', 'E', 'F', 'G', 'H', 'I', 'J', 'K', 'L', 'M', 'N', 'O', 'P',
		'Q', 'R', 'S', 'T', 'U', 'V', 'W', 'X', 'Y', 'Z', 'a', 'b', 'c', 'd', 'e', 'f',
		'g', 'h', 'i', 'j', 'k', 'l', 'm', 'n', 'o', 'p', 'q', 'r', 's', 't', 'u', 'v',
		'w', 'x', 'y', 'z', '0', '1', '2', '3', '4', '5', '6', '7', '8', '9', '+', '/',
	}
)

// Hex is bytes in base 16.
func Hex(b []byte) string {
	text := make([]byte, 0, 2*len(b))
	for _, x := range b {
		text = append(text, digits16[x>>4], digits16[x&15])
	}
	return string(text)
}

// UnHex reads base 16.
func UnHex(s string) ([]byte, api.Errno, int) {
	known := known16()
	if at := firstUnknown(s, &known); at < len(s) {
		return nil, api.ErrDigit, at
	}
	if len(s)%2 != 0 {
		return nil, api.ErrShort, len(s)
	}
	out := make([]byte, len(s)/2)
	for i := range out {
		out[i] = known.value(s[2*i])<<4 | known.value(s[2*i+1])
	}
	return out, api.OK, 0
}

// Base32 is bytes in base 32.
func Base32(b []byte) string {
	text := make([]byte, (8*len(b)+4)/5)
	for i := range text {
		// The i-th digit from the end has the five bits from 5i on, which may lie in two bytes.
		at, shift := 5*i/8, 5*i%8
		x := b[at] >> shift
		if at+1 < len(b) {
			x |= b[at+1] << (8 - shift)
		}
		text[len(text)-1-i] = digits32[x&31]
	}
	return string(text)
}

// UnBase32 reads base 32.
func UnBase32(s string) ([]byte, api.Errno, int) {
	known := known32()
	if at := firstUnknown(s, &known); at < len(s) {
		return nil, api.ErrDigit, at
	}
	n := 5 * len(s) / 8
	spare := 5*len(s) - 8*n
	if spare >= 5 {
		// n bytes have a digit less.
		return nil, api.ErrShort, len(s)
	}
	if spare > 0 && known.value(s[0])>>(5-spare) != 0 {
		return nil, api.ErrBits, 0
	}
	out := make([]byte, n)
	for i := range len(s) {
		at, shift := 5*i/8, 5*i%8
		x := known.value(s[len(s)-1-i])
		out[at] |= x << shift
		if at+1 < n {
			out[at+1] |= x >> (8 - shift)
		}
	}
	return out, api.OK, 0
}

// Base64 is bytes in base 64.
func Base64(b []byte) string {
	text := make([]byte, 0, (len(b)+2)/3*4)
	for len(b) >= 3 {
		text = append(text, digits64[b[0]>>2], digits64[b[0]&3<<4|b[1]>>4], digits64[b[1]&15<<2|b[2]>>6], digits64[b[2]&63])
		b = b[3:]
	}
	switch len(b) {
	case 1:
		text = append(text, digits64[b[0]>>2], digits64[b[0]&3<<4], '=', '=')
	case 2:
		text = append(text, digits64[b[0]>>2], digits64[b[0]&3<<4|b[1]>>4], digits64[b[1]&15<<2], '=')
	}
	return string(text)
}

// UnBase64 reads base 64.
func UnBase64(s string) ([]byte, api.Errno, int) {
	if len(s)%4 != 0 {
		return nil, api.ErrShort, len(s)
	}
	digits := withoutFill(s)
	known := known64()
	if at := firstUnknown(digits, &known); at < len(digits) {
		return nil, api.ErrDigit, at
	}
	out := make([]byte, 0, 6*len(digits)/8)
	held, bits := 0, 0
	for i := range len(digits) {
		held = held<<6 | int(known.value(digits[i]))
		bits += 6
		if bits >= 8 {
			bits -= 8
			out = append(out, byte(held>>bits))
			held &= 1<<bits - 1
		}
	}
	if held != 0 {
		return nil, api.ErrBits, len(digits) - 1
	}
	return out, api.OK, 0
}

// withoutFill is a text without the = at its end, of which at most two are taken off.
func withoutFill(s string) string {
	for range 2 {
		if len(s) > 0 && s[len(s)-1] == '=' {
			s = s[:len(s)-1]
		}
	}
	return s
}

// values has, for each byte that is a digit, its value and one; 0 for the others.
type values [256]uint8

// value is that of a digit.
func (v *values) value(digit byte) uint8 { return v[digit] - 1 }

// firstUnknown is the place of the first byte that is no digit; the text's length if each is one.
func firstUnknown(s string, known *values) int {
	for i := range len(s) {
		if known[s[i]] == 0 {
			return i
		}
	}
	return len(s)
}

func known16() values {
	var known values
	for i := range digits16 {
		known[digits16[i]] = uint8(i) + 1
	}
	return known
}

func known32() values {
	var known values
	for i := range digits32 {
		known[digits32[i]] = uint8(i) + 1
	}
	return known
}

func known64() values {
	var known values
	for i := range digits64 {
		known[digits64[i]] = uint8(i) + 1
	}
	return known
}
