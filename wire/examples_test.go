package wire

import (
	"strings"
	"testing"

	"graft/api"
)

// The examples of 16.5, by their numbers.

func TestExample1(t *testing.T) {
	encodes(t, api.Ask{Op: 9}, "\x09"+zeros(7)+zeros(32))
	encodes(t, api.Ask{Op: 1, Number: 1}, "\x01"+zeros(7)+zeros(24)+"\x01"+zeros(7))
	refusesAsk(t, api.Ask{Op: 9, Number: 1}, api.ErrWire)
	refusesAsk(t, api.Ask{Op: 0}, api.ErrVoid)
}

func TestExample2(t *testing.T) {
	list := "\x09" + zeros(39)
	for _, x := range []known{{list + "x", api.OK, 40}, {list[:39], api.ErrShort, 39}, {"\x0c" + zeros(7), api.ErrVoid, 0}, {"\x09" + zeros(7) + "\x01", api.ErrShort, 9}, {"\x09" + zeros(7) + "\x01" + zeros(7), api.ErrWire, 8}} {
		if a, e, n := Decode([]byte(x.data)); e != x.e || n != x.at || e == api.OK && a.Op != 9 {
			t.Errorf("Decode(%q) = %s, %d, %d, want %d, %d", x.data, showAsk(a), e, n, x.e, x.at)
		}
	}
}

func TestExample3(t *testing.T) {
	data := zeros(8) + zeros(8) + "\x02" + zeros(7) + "hi" + zeros(6) + zeros(16)
	data = "\x03" + data[1:]
	encodes(t, api.Ask{Op: 3, Text: "hi"}, data)
	for at := 26; at < 32; at++ {
		if _, e, n := Decode([]byte(data[:at] + "x" + data[at+1:])); e != api.ErrPadding || n != at {
			t.Errorf("padding turned at %d: %d, %d", at, e, n)
		}
	}
}

func TestExamples4To6(t *testing.T) {
	w := newWorld(t, 1<<20)
	s := NewSession(w.e)
	if a := asks(t, s, api.Ask{Op: api.OpList}); a.Err != api.ErrVoid || s.Open() {
		t.Errorf("%s", showSay(a))
	}
	s = NewSession(w.e)
	want := zeros(16) + "\x0c" + zeros(7) + "graft-wire-1" + zeros(4) + zeros(8) + "\x01" + zeros(7)
	if out := s.Feed([]byte("\x01" + zeros(31) + "\x01" + zeros(7))); string(out) != want || len(out) != 8+8+(8+16)+8+8 {
		t.Errorf("%q, want %q", out, want)
	}
	if a := asks(t, s, api.Ask{Op: api.OpLookup}); showSay(a) != showSay(api.Say{Err: api.ErrArg}) {
		t.Errorf("%s", showSay(a))
	}
	if a := asks(t, s, hello()); showSay(a) != showSay(api.Say{Err: api.ErrVoid}) || !s.Open() {
		t.Errorf("%s", showSay(a))
	}
	if a := asks(t, s, api.Ask{Op: api.OpBye}); !emptySay(a) || s.Open() {
		t.Errorf("%s", showSay(a))
	}
	closed(t, s)
	s = NewSession(w.e)
	if out := s.Feed([]byte("\xff\xff")); len(out) != 0 || !s.Open() {
		t.Errorf("%q", out)
	}
	if out := answersOf(t, string(s.Feed([]byte(strings.Repeat("\xff", 6))))); len(out) != 1 || showSay(out[0]) != showSay(api.Say{Err: api.ErrVoid}) || s.Open() {
		t.Errorf("%d answers, open %v", len(out), s.Open())
	}
}

func TestExamples7And8(t *testing.T) {
	b, e := Export(nil)
	if e != api.OK || len(b) != 8+13+8+4 {
		t.Fatalf("%d, %q", e, b)
	}
	if l, e, at := takeAll(bytewise(string(b))); len(l) != 0 || e != api.OK || at != 0 {
		t.Errorf("byte by byte: %d, %d", e, at)
	}
	if e, at := NewIntake().Feed(append([]byte(string(b)), 0)); e != api.ErrTail || at != 33 {
		t.Errorf("with a byte behind: %d, %d", e, at)
	}
	for _, x := range []struct {
		turned int
		e      api.Errno
		at     int
	}{{0, api.ErrMagic, 0}, {8, api.ErrSum, 8}, {21, api.ErrSum, 29}} {
		c := []byte(string(b))
		c[x.turned] ^= 1
		if e, at := NewIntake().Feed(c); e != x.e || at != x.at {
			t.Errorf("byte %d turned: %d, %d", x.turned, e, at)
		}
	}
}

func TestExamples9And10(t *testing.T) {
	w := newWorld(t, 1<<20)
	s := greeted(t, w)
	own := holding(la, "a")
	own.Ca = api.ByText
	if a := asks(t, s, importing(1, own)); a.Err != api.ErrObject || len(w.e.Shelf().List()) != 0 {
		t.Errorf("%s", showSay(a))
	}
	if a := asks(t, s, importing(0, holding(la, "a"))); showSay(a) != showSay(api.Say{Err: api.ErrArg}) {
		t.Errorf("%s", showSay(a))
	}
	one := w.text("one", "1")
	two := w.text("two", digits(one), one)
	labels, _, _ := w.e.Shelf().Closure([]api.Label{two})
	var want []api.Object
	for _, l := range labels {
		o, _ := w.e.Read(l)
		want = append(want, o)
	}
	a := asks(t, s, exporting(two))
	n := NewIntake()
	n.Feed(a.Data)
	if l, e, _ := n.Close(); len(want) != 2 || showObjects(l) != showObjects(want) || e != api.OK {
		t.Errorf("%d, %s\nwant %s", e, showObjects(l), showObjects(want))
	}
}
