package lay

import (
	"encoding/binary"
	"math"
	"strings"
	"testing"
)

func TestNumber(t *testing.T) {
	for _, n := range []int{0, 1, 255, 256, 0x0102030405060708, math.MaxInt, -1, -256, math.MinInt} {
		want := "x" + string(binary.LittleEndian.AppendUint64(nil, uint64(n)))
		if got := string(Number([]byte("x"), n)); got != want || len(got) != 1+NumberSize {
			t.Errorf("Number(%d) = %q, want %q", n, got, want)
		}
	}
}

func TestHalf(t *testing.T) {
	for _, n := range []uint32{0, 1, 255, 256, 0x01020304, math.MaxUint32} {
		want := "x" + string(binary.LittleEndian.AppendUint32(nil, n))
		if got := string(Half([]byte("x"), n)); got != want || len(got) != 1+HalfSize {
			t.Errorf("Half(%d) = %q, want %q", n, got, want)
		}
	}
}

func TestRead(t *testing.T) {
	for _, n := range []uint64{0, 1, 255, 256, 0x0102030405060708, 1 << 63, math.MaxUint64} {
		b := binary.LittleEndian.AppendUint64(nil, n)
		if got := Read(b); got != n {
			t.Errorf("Read(% x) = %d, want %d", b, got, n)
		}
		if got := Read(b[:HalfSize]); got != n&math.MaxUint32 {
			t.Errorf("Read(% x) = %d, want %d", b[:HalfSize], got, n&math.MaxUint32)
		}
	}
	if got := Read(nil); got != 0 {
		t.Errorf("Read of no bytes = %d", got)
	}
}

func TestText(t *testing.T) {
	for _, n := range []int{0, 1, 255, 256, 70000} {
		text := strings.Repeat("t", n)
		want := "x" + string(binary.LittleEndian.AppendUint32(nil, uint32(n))) + text
		if got := string(Text([]byte("x"), text)); got != want {
			t.Errorf("Text of %d bytes = %.20q", n, got)
		}
		if got := string(Text([]byte("x"), []byte(text))); got != want {
			t.Errorf("Text of %d bytes in a list = %.20q", n, got)
		}
	}
}

func TestWord(t *testing.T) {
	for n := range 300 {
		text := strings.Repeat("t", n)
		padding := strings.Repeat("\x00", (8-n%8)%8)
		want := "x" + string(binary.LittleEndian.AppendUint64(nil, uint64(n))) + text + padding
		if got := string(Word([]byte("x"), []byte(text))); got != want {
			t.Errorf("Word of %d bytes = %q, want %q", n, got, want)
		}
		if got := string(Word([]byte("x"), text)); got != want {
			t.Errorf("Word of a text of %d bytes = %q, want %q", n, got, want)
		}
		if WordSize(n) != len(want)-1 {
			t.Errorf("WordSize(%d) = %d, want %d", n, WordSize(n), len(want)-1)
		}
	}
}

// Nothing but its own bytes is written: what stands behind a word of another list stays.
func TestWordHandedIn(t *testing.T) {
	text := []byte("abcroom")
	if got := string(Word(nil, text[:3])); got != "\x03\x00\x00\x00\x00\x00\x00\x00abc\x00\x00\x00\x00\x00" || string(text) != "abcroom" {
		t.Errorf("%q, %q", got, text)
	}
}
