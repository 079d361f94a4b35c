package lay

import (
	"math"
	"slices"
	"strings"
	"testing"
)

// What is laid down is taken off again, one behind the other.
func TestReader(t *testing.T) {
	b := Text(Half(append(Text([]byte{7}, "text"), 255), math.MaxUint32), "")
	r := NewReader(b)
	if r.Left() != len(b) || r.Broken() {
		t.Errorf("at the beginning: %d, %v", r.Left(), r.Broken())
	}
	if x := r.Octet(); x != 7 || r.Left() != len(b)-1 {
		t.Errorf("Octet = %d, %d left", x, r.Left())
	}
	if x := string(r.Text()); x != "text" || r.Left() != len(b)-9 {
		t.Errorf("Text = %q, %d left", x, r.Left())
	}
	if x := r.Octet(); x != 255 {
		t.Errorf("Octet = %d", x)
	}
	if x := r.Half(); x != math.MaxUint32 {
		t.Errorf("Half = %d", x)
	}
	if x := r.Text(); len(x) != 0 || r.Left() != 0 || r.Broken() {
		t.Errorf("an empty text at the end: %q, %d left, %v", x, r.Left(), r.Broken())
	}
}

// Numbers of eight bytes and words too, and a word's padding with it.
func TestReaderWords(t *testing.T) {
	for n := range 20 {
		text := strings.Repeat("t", n)
		r := NewReader(Number(Word(Number(nil, -1), text), math.MaxInt))
		if x := r.Number(); x != -1 {
			t.Errorf("Number = %d", x)
		}
		if x := string(r.Word()); x != text || r.Left() != NumberSize {
			t.Errorf("Word = %q, %d left", x, r.Left())
		}
		if x := r.Number(); x != math.MaxInt || r.Left() != 0 || r.Broken() {
			t.Errorf("Number = %d, %d left, %v", x, r.Left(), r.Broken())
		}
	}
}

// A word whose padding isn't 0 breaks it, at each place of the padding.
func TestReaderPadding(t *testing.T) {
	for n := range 17 {
		b := Word(nil, strings.Repeat("t", n))
		for i := NumberSize + n; i < len(b); i++ {
			turned := append(slices.Clone(b), "behind it"...)
			turned[i] = 1
			r := NewReader(turned)
			if x := r.Word(); x != nil || !r.Broken() || r.Left() != 0 {
				t.Errorf("%d bytes, padding turned at %d: %q, %v", n, i, x, r.Broken())
			}
		}
	}
}

// Where too little is left it is broken, and has no more bytes.
func TestReaderShort(t *testing.T) {
	for _, x := range []struct {
		what string
		data string
		take func(r *Reader) int
	}{
		{"a byte of none", "", func(r *Reader) int { return int(r.Octet()) }},
		{"a number of three bytes", "\x01\x02\x03", (*Reader).Half},
		{"a number of seven bytes", "\x01\x02\x03\x04\x05\x06\x07", (*Reader).Number},
		{"a word whose number is cut off", "\x00\x00\x00\x00\x00\x00\x00", func(r *Reader) int { return len(r.Word()) }},
		{"a word that is cut off", "\x03\x00\x00\x00\x00\x00\x00\x00ab", func(r *Reader) int { return len(r.Word()) }},
		{"a word whose padding is cut off", "\x03\x00\x00\x00\x00\x00\x00\x00abc\x00\x00\x00\x00", func(r *Reader) int { return len(r.Word()) }},
		{"a word that is far too long", "\xff\xff\xff\xff\xff\xff\xff\x7fabcdefgh", func(r *Reader) int { return len(r.Word()) }},
		{"a word of fewer than no bytes", "\xff\xff\xff\xff\xff\xff\xff\xffabcdefgh", func(r *Reader) int { return len(r.Word()) }},
		{"a text whose number is cut off", "\x00\x00", func(r *Reader) int { return len(r.Text()) }},
		{"a text that is cut off", "\x03\x00\x00\x00ab", func(r *Reader) int { return len(r.Text()) }},
		{"a text that is far too long", "\xff\xff\xff\xffab", func(r *Reader) int { return len(r.Text()) }},
	} {
		r := NewReader([]byte(x.data))
		if n := x.take(&r); n != 0 || !r.Broken() || r.Left() != 0 {
			t.Errorf("%s: %d, %v, %d left", x.what, n, r.Broken(), r.Left())
		}
		if r.Octet() != 0 || r.Half() != 0 || r.Number() != 0 || len(r.Text()) != 0 || len(r.Word()) != 0 || !r.Broken() {
			t.Errorf("%s: goes on", x.what)
		}
	}
}

// Break breaks it, and what is left is gone.
func TestReaderBreak(t *testing.T) {
	r := NewReader([]byte("abcdefgh"))
	r.Break()
	if !r.Broken() || r.Left() != 0 || r.Octet() != 0 || r.Half() != 0 || len(r.Text()) != 0 {
		t.Errorf("%v, %d left", r.Broken(), r.Left())
	}
}
