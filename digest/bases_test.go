package digest

import (
	"bytes"
	"encoding/base64"
	"encoding/hex"
	"math/big"
	"strings"
	"testing"

	"graft/api"
)

const alphabet32 = "0123456789abcdfghijklmnpqrsvwxyz"

// number is the number that bytes are, the lowest first.
func number(b []byte) *big.Int {
	n := new(big.Int)
	for i := len(b) - 1; i >= 0; i-- {
		n.Lsh(n, 8).Or(n, big.NewInt(int64(b[i])))
	}
	return n
}

// plain32 is Base32 by the words of 1.5.
func plain32(b []byte) string {
	d := 0
	for 5*d < 8*len(b) {
		d++
	}
	text := make([]byte, d)
	n := number(b)
	for i := d - 1; i >= 0; i-- {
		rest := new(big.Int)
		n.DivMod(n, big.NewInt(32), rest)
		text[i] = alphabet32[rest.Int64()]
	}
	return string(text)
}

// plainUn32 is UnBase32 by the words of 1.5.
func plainUn32(s string) ([]byte, api.Errno, int) {
	n := new(big.Int)
	for i := range len(s) {
		v := strings.IndexByte(alphabet32, s[i])
		if v < 0 {
			return nil, api.ErrDigit, i
		}
		n.Mul(n, big.NewInt(32)).Add(n, big.NewInt(int64(v)))
	}
	if d := len(s) % 8; d == 1 || d == 3 || d == 6 {
		return nil, api.ErrShort, len(s)
	}
	out := make([]byte, 5*len(s)/8)
	for i := range out {
		rest := new(big.Int)
		n.DivMod(n, big.NewInt(256), rest)
		out[i] = byte(rest.Int64())
	}
	if n.Sign() != 0 {
		return nil, api.ErrBits, 0
	}
	return out, api.OK, 0
}

// plainUn16 is UnHex by the words of 1.5.
func plainUn16(s string) ([]byte, api.Errno, int) {
	for i := range len(s) {
		if strings.IndexByte("0123456789abcdef", s[i]) < 0 {
			return nil, api.ErrDigit, i
		}
	}
	if len(s)%2 == 1 {
		return nil, api.ErrShort, len(s)
	}
	out, _ := hex.DecodeString(s)
	return out, api.OK, 0
}

// plainUn64 is UnBase64 by the words of 1.5.
func plainUn64(s string) ([]byte, api.Errno, int) {
	if len(s)%4 != 0 {
		return nil, api.ErrShort, len(s)
	}
	digits := strings.TrimSuffix(strings.TrimSuffix(s, "="), "=")
	var bits strings.Builder
	for i := range len(digits) {
		v := strings.IndexByte("ABCDEFGHIJKLMNOPQRSTUVWXYZabcdefghijklmnopqrstuvwxyz0123456789+/", digits[i])
		if v < 0 {
			return nil, api.ErrDigit, i
		}
		for b := 5; b >= 0; b-- {
			bits.WriteByte(byte('0' + v>>b&1))
		}
	}
	text := bits.String()
	whole := len(text) / 8 * 8
	if strings.Contains(text[whole:], "1") {
		return nil, api.ErrBits, len(digits) - 1
	}
	var out []byte
	for i := 0; i < whole; i += 8 {
		v, _ := new(big.Int).SetString(text[i:i+8], 2)
		out = append(out, byte(v.Int64()))
	}
	return out, api.OK, 0
}

type base struct {
	name  string
	show  func([]byte) string
	read  func(string) ([]byte, api.Errno, int)
	plain func(string) ([]byte, api.Errno, int)
}

func bases() []base {
	return []base{
		{"base 16", Hex, UnHex, plainUn16},
		{"base 32", Base32, UnBase32, plainUn32},
		{"base 64", Base64, UnBase64, plainUn64},
	}
}

// 1.5: the texts of bytes of every short length.
func TestShow(t *testing.T) {
	for n := range 100 {
		for seed := range uint64(20) {
			b := sample(n, seed)
			if Hex(b) != hex.EncodeToString(b) || Base32(b) != plain32(b) || Base64(b) != base64.StdEncoding.EncodeToString(b) {
				t.Errorf("%x: %s, %s, %s", b, Hex(b), Base32(b), Base64(b))
			}
		}
		b := bytes.Repeat([]byte{0xff}, n)
		if Hex(b) != strings.Repeat("ff", n) || Base32(b) != plain32(b) || Base64(b) != base64.StdEncoding.EncodeToString(b) {
			t.Errorf("%d bytes FF: %s, %s, %s", n, Hex(b), Base32(b), Base64(b))
		}
	}
	if len(Base32(make([]byte, 20))) != 32 || len(Base32(make([]byte, 32))) != 52 {
		t.Errorf("20 bytes have 32 digits, 32 bytes 52")
	}
}

// 1.9.4 to 1.9.7: the texts.
func TestShowExamples(t *testing.T) {
	for _, c := range []struct {
		show func([]byte) string
		b    string
		want string
	}{
		{Hex, "", ""}, {Base32, "", ""}, {Base64, "", ""},
		{Hex, "\x00\xff", "00ff"},
		{Base32, "\x00", "00"}, {Base32, "\x01", "01"}, {Base32, "\x1f", "0z"}, {Base32, "\x20", "10"}, {Base32, "\xff", "7z"},
		{Base32, "\x01\x00", "0001"}, {Base32, "\x00\x01", "0080"},
		{Base64, "f", "Zg=="}, {Base64, "fo", "Zm8="}, {Base64, "foo", "Zm9v"}, {Base64, "\xfb\xff\xfe", "+//+"},
	} {
		if got := c.show([]byte(c.b)); got != c.want {
			t.Errorf("%x: %q, want %q", c.b, got, c.want)
		}
	}
	if Hex(nil) != "" || Base32(nil) != "" || Base64(nil) != "" {
		t.Errorf("nil is no bytes")
	}
}

// 1.9.4 to 1.9.7: what is refused, and where.
func TestReadExamples(t *testing.T) {
	for _, c := range []struct {
		read func(string) ([]byte, api.Errno, int)
		text string
		want string
		e    api.Errno
		at   int
	}{
		{UnHex, "", "", api.OK, 0}, {UnBase32, "", "", api.OK, 0}, {UnBase64, "", "", api.OK, 0},
		{UnHex, "00ff", "\x00\xff", api.OK, 0},
		{UnHex, "0", "", api.ErrShort, 1}, {UnHex, "000", "", api.ErrShort, 3},
		{UnHex, "0G1", "", api.ErrDigit, 1}, {UnHex, "FF", "", api.ErrDigit, 0}, {UnHex, "0000x", "", api.ErrDigit, 4},
		{UnBase32, "7z", "\xff", api.OK, 0}, {UnBase32, "0080", "\x00\x01", api.OK, 0},
		{UnBase32, "8z", "", api.ErrBits, 0},
		{UnBase32, "0", "", api.ErrShort, 1}, {UnBase32, "zzz", "", api.ErrShort, 3}, {UnBase32, "zzzzzz", "", api.ErrShort, 6}, {UnBase32, "zzzzzzzzz", "", api.ErrShort, 9},
		{UnBase32, "0e", "", api.ErrDigit, 1}, {UnBase32, "o", "", api.ErrDigit, 0}, {UnBase32, "zt", "", api.ErrDigit, 1}, {UnBase32, "zzu", "", api.ErrDigit, 2}, {UnBase32, "A0", "", api.ErrDigit, 0},
		{UnBase64, "Zg==", "f", api.OK, 0}, {UnBase64, "Zm8=", "fo", api.OK, 0}, {UnBase64, "Zm9v", "foo", api.OK, 0},
		{UnBase64, "Zh==", "", api.ErrBits, 1}, {UnBase64, "Zm9=", "", api.ErrBits, 2}, {UnBase64, "Zm9vZh==", "", api.ErrBits, 5},
		{UnBase64, "Zg=", "", api.ErrShort, 3}, {UnBase64, "!", "", api.ErrShort, 1},
		{UnBase64, "Z===", "", api.ErrDigit, 1}, {UnBase64, "====", "", api.ErrDigit, 0}, {UnBase64, "Zm9v====", "", api.ErrDigit, 4},
		{UnBase64, "Zg=v", "", api.ErrDigit, 2}, {UnBase64, "Z-==", "", api.ErrDigit, 1}, {UnBase64, "_h==", "", api.ErrDigit, 0},
	} {
		b, e, at := c.read(c.text)
		if string(b) != c.want || e != c.e || at != c.at {
			t.Errorf("%q: %x, %d, %d, want %x, %d, %d", c.text, b, e, at, c.want, c.e, c.at)
		}
	}
}

// against holds a reader's answer against that of the plain one, and 1.7: what is taken is the one text of its answer.
func (x base) against(t *testing.T, text string) {
	t.Helper()
	b, e, at := x.read(text)
	want, we, wat := x.plain(text)
	if !bytes.Equal(b, want) || e != we || at != wat {
		t.Fatalf("%s: %q: %x, %d, %d, want %x, %d, %d", x.name, text, b, e, at, want, we, wat)
	}
	if e == api.OK && x.show(b) != text {
		t.Fatalf("%s: %q is %x, whose text is %q", x.name, text, b, x.show(b))
	}
}

// 1.5, 1.7: all texts of at most four characters of a few, and every single byte at every place.
func TestReadShort(t *testing.T) {
	for _, x := range bases() {
		texts := []string{""}
		for len(texts) > 0 {
			text := texts[0]
			texts = texts[1:]
			x.against(t, text)
			if len(text) < 4 {
				for _, c := range "0178fghzeAGQ+/=F" {
					texts = append(texts, text+string(c))
				}
			}
		}
		for c := range 256 {
			for n := range 9 {
				for at := range n {
					text := []byte(strings.Repeat("0", n))
					text[at] = byte(c)
					x.against(t, string(text))
				}
			}
		}
	}
}

// 1.5, 1.7: texts of bytes come back; texts of any digits, and with one character turned, are judged rightly.
func TestReadBack(t *testing.T) {
	for _, x := range bases() {
		for n := range 70 {
			for seed := range uint64(10) {
				b := sample(n, seed)
				text := x.show(b)
				got, e, at := x.read(text)
				if !bytes.Equal(got, b) || e != api.OK || at != 0 {
					t.Fatalf("%s: %x is %q, which is %x, %d, %d", x.name, b, text, got, e, at)
				}
				for i := range text {
					turned := []byte(text)
					turned[i] ^= byte(1 + seed)
					x.against(t, string(turned))
				}
				x.against(t, text+"0")
				x.against(t, text+"=")
			}
		}
	}
}

// 1.5: the number of the digits must be below 256 to the power of n; just below it is taken.
func TestBits32(t *testing.T) {
	for _, n := range []int{1, 2, 3, 4, 6, 7, 20, 32} {
		top := Base32(bytes.Repeat([]byte{0xff}, n))
		bases()[1].against(t, top)
		for v := range 32 {
			bases()[1].against(t, alphabet32[v:v+1]+top[1:])
			bases()[1].against(t, alphabet32[v:v+1]+strings.Repeat("0", len(top)-1))
		}
	}
}

// Memory: each list that is handed out is new, its spare room too.
func TestGivenMemory(t *testing.T) {
	for _, x := range bases() {
		for n := range 20 {
			b := sample(n, 3)
			text := x.show(b)
			first, _, _ := x.read(text)
			second, _, _ := x.read(text)
			clear(first[:cap(first)])
			_ = append(first, 1, 2, 3)
			third, _, _ := x.read(text)
			if !bytes.Equal(second, b) || !bytes.Equal(third, b) {
				t.Errorf("%s: what is written into one answer shows in another", x.name)
			}
		}
	}
}
