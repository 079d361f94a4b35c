package wire

import (
	"bytes"
	"math"
	"strings"
	"testing"

	"graft/api"
)

func bytesOf(t *testing.T, a api.Ask) string {
	t.Helper()
	data, e := plainEncode(a, true)
	if e != api.OK {
		t.Fatalf("%s can't be said: %d", showAsk(a), e)
	}
	return data
}

func bytesOfSay(t *testing.T, a api.Say) string {
	t.Helper()
	data, e := plainEncodeSay(a)
	if e != api.OK {
		t.Fatalf("%s can't be said: %d", showSay(a), e)
	}
	return data
}

// answersOf is answers that stand one behind the other.
func answersOf(t *testing.T, data string) []api.Say {
	t.Helper()
	var out []api.Say
	for data != "" {
		a, e, n := plainDecodeSay(data)
		if e != api.OK {
			t.Fatalf("P16.3: %s are no answers: %d, %d", brief(data), e, n)
		}
		out, data = append(out, a), data[n:]
	}
	return out
}

// asks feeds a session with a request: its one answer.
func asks(t *testing.T, s *Session, a api.Ask) api.Say {
	t.Helper()
	out := answersOf(t, string(s.Feed([]byte(bytesOf(t, a)))))
	if len(out) != 1 {
		t.Fatalf("P16.3: %d answers to %s", len(out), showAsk(a))
	}
	return out[0]
}

// feeds feeds a session with pieces: all that it answers.
func feeds(s *Session, pieces []string) string {
	var out strings.Builder
	for _, p := range pieces {
		out.Write(s.Feed([]byte(p)))
	}
	return out.String()
}

func hello() api.Ask { return api.Ask{Op: api.OpHello, Number: 1} }

// greeted is a session that goes on.
func greeted(t *testing.T, w *world) *Session {
	t.Helper()
	s := NewSession(w.e)
	if s == nil || !s.Open() {
		t.Fatal("P16.3: a new session isn't open")
	}
	if a := asks(t, s, hello()); showSay(a) != showSay(api.Say{Text: "graft-wire-1", Number: 1}) || !s.Open() {
		t.Fatalf("P16.4: %s", showSay(a))
	}
	return s
}

// closed holds that a session takes nothing and answers nothing.
func closed(t *testing.T, s *Session) {
	t.Helper()
	for _, data := range []string{"", "x", bytesOf(t, hello()), bytesOf(t, api.Ask{Op: api.OpList}), zeros(100)} {
		if out := s.Feed([]byte(data)); len(out) != 0 || s.Open() {
			t.Errorf("P16.3: a closed session answers %q, open %v", out, s.Open())
		}
	}
}

// A request that is refused as the first one closes the session, whatever it is, and nothing is done.
func TestFirstRequest(t *testing.T) {
	var list []api.Ask
	for op := range plainFields {
		list = append(list, fullAsk(op), api.Ask{Op: op})
	}
	list = append(list, api.Ask{Op: api.OpHello, Number: 2}, api.Ask{Op: api.OpHello, Number: -1}, api.Ask{Op: api.OpHello, Number: 1 + 1<<32}, api.Ask{Op: api.OpHello, Number: math.MinInt + 1}, api.Ask{Op: api.OpText, Text: "t"})
	for _, a := range list {
		w := newWorld(t, 1<<20)
		before := w.state()
		s := NewSession(w.e)
		if got := asks(t, s, a); showSay(got) != showSay(api.Say{Err: api.ErrVoid}) || s.Open() || w.state() != before {
			t.Errorf("P16.4: the first request %s: %s, open %v", showAsk(a), showSay(got), s.Open())
		}
		closed(t, s)
		// Behind it, in the same piece, nothing is taken.
		s = NewSession(w.e)
		if out := answersOf(t, string(s.Feed([]byte(bytesOf(t, a)+bytesOf(t, hello()))))); len(out) != 1 || s.Open() {
			t.Errorf("P16.4: %d answers behind the first request %s", len(out), showAsk(a))
		}
	}
}

func TestHello(t *testing.T) {
	w := newWorld(t, 1<<20)
	s := greeted(t, w)
	for _, n := range []int{1, 0, 2, -1, 1} {
		if a := asks(t, s, api.Ask{Op: api.OpHello, Number: n}); showSay(a) != showSay(api.Say{Err: api.ErrVoid}) || !s.Open() {
			t.Errorf("P16.4: a later OpHello with %d: %s, open %v", n, showSay(a), s.Open())
		}
	}
	if a := asks(t, s, api.Ask{Op: api.OpText, Text: "t"}); a.Err != api.OK || len(a.Labels) != 1 {
		t.Errorf("P16.4: behind a later OpHello: %s", showSay(a))
	}
	if got := s.Feed([]byte(bytesOf(t, hello()))[:39]); len(got) != 0 || !s.Open() {
		t.Errorf("P16.3: %q", got)
	}
}

func TestBye(t *testing.T) {
	w := newWorld(t, 1<<20)
	s := greeted(t, w)
	if a := asks(t, s, api.Ask{Op: api.OpBye}); showSay(a) != showSay(api.Say{}) || s.Open() {
		t.Errorf("P16.4: OpBye: %s, open %v", showSay(a), s.Open())
	}
	closed(t, s)
	before := w.state()
	s = greeted(t, w)
	data := bytesOf(t, api.Ask{Op: api.OpBye}) + bytesOf(t, api.Ask{Op: api.OpText, Text: "t"}) + "\xff\xff\xff\xff\xff\xff\xff\xff"
	if out := answersOf(t, string(s.Feed([]byte(data)))); len(out) != 1 || !emptySay(out[0]) || s.Open() || w.state() != before {
		t.Errorf("P16.4: bytes behind OpBye: %d answers", len(out))
	}
	closed(t, s)
}

// What Decode refuses is said with its place, counted from the request's first byte, as soon as it is known; the session is closed.
func TestSessionErrors(t *testing.T) {
	w := newWorld(t, 1<<20)
	before := w.state()
	list := bytesOf(t, api.Ask{Op: api.OpList})
	for _, x := range wrongAsks() {
		for _, ahead := range []string{"", bytesOf(t, hello()), bytesOf(t, hello()) + list + list} {
			for _, more := range []string{"", list, "\xff"} {
				s := NewSession(w.e)
				skip := len(answersOf(t, string(s.Feed([]byte(ahead)))))
				got := answersOf(t, string(s.Feed([]byte(x.data+more))))
				if len(got) != 1 || showSay(got[0]) != showSay(api.Say{Err: x.e, Number: x.at}) || s.Open() || ahead != "" && skip == 0 {
					t.Fatalf("P16.3: %q: %d answers, open %v, want %d, %d", x.data+more, len(got), s.Open(), x.e, x.at)
				}
				closed(t, s)
			}
			// Ahead of its last byte nothing is said, and in one piece all is.
			s := NewSession(w.e)
			s.Feed([]byte(ahead))
			if out := s.Feed([]byte(x.data[:len(x.data)-1])); len(out) != 0 || !s.Open() {
				t.Fatalf("P16.3: %q is refused too early", x.data)
			}
			if got := answersOf(t, string(s.Feed([]byte(x.data[len(x.data)-1:])))); len(got) != 1 || showSay(got[0]) != showSay(api.Say{Err: x.e, Number: x.at}) || s.Open() {
				t.Fatalf("P16.3: %q isn't refused with its last byte", x.data)
			}
			s = NewSession(w.e)
			want, _ := plainSession(w.e, ahead+x.data)
			if out := string(s.Feed([]byte(ahead + x.data))); out != want || s.Open() {
				t.Fatalf("P16.3: %q in one piece: %q", ahead+x.data, out)
			}
		}
	}
	if w.state() != before {
		t.Error("P16.3: something was done")
	}
}

// script is a session's bytes, in which each request has its part.
func script(t *testing.T) string {
	t.Helper()
	stream := streamOf(holding(la, "see "+digits(lb), lb), holding(lb, "hi"))
	var out string
	for _, a := range []api.Ask{
		hello(), {Op: api.OpImport, Data: []byte(stream), Number: 3}, {Op: api.OpList}, {Op: api.OpText, Text: "t", Data: []byte("some text")}, {Op: api.OpTree, Text: "d", Data: file("x")},
		{Op: api.OpRewrite, Labels: []api.Label{la}, Number: 9}, {Op: api.OpLookup, Labels: []api.Label{la}}, {Op: api.OpRead, Labels: []api.Label{lb}}, {Op: api.OpVerify, Labels: []api.Label{lb}, Number: 1},
		{Op: api.OpLookup}, hello(), {Op: api.OpRewrite, Labels: []api.Label{la, lc}, Number: 1}, {Op: api.OpExport, Labels: []api.Label{la}}, {Op: api.OpList}, {Op: api.OpBye}, {Op: api.OpText, Text: "t2"},
	} {
		out += bytesOf(t, a)
	}
	return out
}

// What all Feeds answer together, and what they do, hangs on the bytes alone; each answer comes with the last byte of its request.
func TestSessionPieces(t *testing.T) {
	data := script(t)
	plain := newWorld(t, 1<<20)
	want, open := plainSession(plain.e, data)
	if n := len(answersOf(t, want)); n != 15 || open {
		t.Fatalf("%d answers, open %v", n, open)
	}
	source := sourceOf(2)
	cuts := [][]string{{data}, bytewise(data)}
	for i := range 200 {
		cuts = append(cuts, piecesOf(source, data, pick(source, 1, 3, 8, 40, 200, 1000)))
		at := i * len(data) / 200
		cuts = append(cuts, []string{data[:at], "", data[at:]})
	}
	for _, pieces := range cuts {
		w := newWorld(t, 1<<20)
		s := NewSession(w.e)
		if out := feeds(s, pieces); out != want || s.Open() || w.state() != plain.state() {
			t.Fatalf("P16.3: %d pieces: %s, open %v", len(pieces), brief(out), s.Open())
		}
	}
}

// At each beginning of a session's bytes all answers are there that are due by them.
func TestSessionDue(t *testing.T) {
	data := script(t)
	w := newWorld(t, 1<<20)
	s := NewSession(w.e)
	var got string
	for k, p := range bytewise(data) {
		got += string(s.Feed([]byte(p)))
		if k%5 != 0 && k%8 > 1 {
			continue
		}
		want, open := plainSession(newWorld(t, 1<<20).e, data[:k+1])
		if got != want || s.Open() != open {
			t.Fatalf("P16.3: behind byte %d: %s, open %v, want %s", k, brief(got), s.Open(), brief(want))
		}
	}
}

// Random requests, right and spoilt, in random pieces.
func TestSessionByChance(t *testing.T) {
	source := sourceOf(3)
	for range 300 {
		data := bytesOf(t, hello())
		for range source.IntN(12) {
			a := randomAsk(source)
			if a.Op == api.OpBye && source.IntN(3) > 0 {
				a.Op = api.OpList
			}
			x := bytesOf(t, a)
			if source.IntN(8) == 0 {
				x = spoil(source, x)
			}
			data += x
		}
		one, two := newWorld(t, 1<<20), newWorld(t, 1<<20)
		for _, w := range []*world{one, two} {
			w.lay(holding(la, digits(lb), lb), holding(lb, "b"))
		}
		want, open := plainSession(one.e, data)
		s := NewSession(two.e)
		if got := feeds(s, piecesOf(source, data, pick(source, 5, 50, 500))); got != want || s.Open() != open || one.state() != two.state() {
			t.Fatalf("P16.3: %q: %q, open %v, want %q, %v", data, got, s.Open(), want, open)
		}
	}
}

// Two sessions on one engine see one store; on two engines they have nothing in common.
func TestTwoSessions(t *testing.T) {
	w, other := newWorld(t, 1<<20), newWorld(t, 1<<20)
	one, two, three := NewSession(w.e), NewSession(w.e), NewSession(other.e)
	text := func(name string) string { return bytesOf(t, api.Ask{Op: api.OpText, Text: name}) }
	list := bytesOf(t, api.Ask{Op: api.OpList})
	count := func(s *Session) int {
		return len(answersOf(t, string(s.Feed([]byte(list))))[0].Labels)
	}
	all := []*Session{one, two, three}
	for _, p := range bytewise(bytesOf(t, hello())[:39]) {
		for _, s := range all {
			if out := s.Feed([]byte(p)); len(out) != 0 {
				t.Fatalf("P16.3: %q", out)
			}
		}
	}
	for _, s := range all {
		if out := answersOf(t, string(s.Feed([]byte{0}))); len(out) != 1 || out[0].Text != "graft-wire-1" {
			t.Fatalf("P16.4: %d answers", len(out))
		}
	}
	// A request that is half there in one doesn't touch the others.
	one.Feed([]byte(text("one")[:20]))
	if a := asks(t, two, api.Ask{Op: api.OpText, Text: "two"}); a.Err != api.OK {
		t.Errorf("P16.5: %s", showSay(a))
	}
	if n, m := count(two), count(three); n != 1 || m != 0 {
		t.Errorf("P16.5: %d and %d objects", n, m)
	}
	one.Feed([]byte(text("one")[20:]))
	if n, m, k := count(one), count(two), count(three); n != 2 || m != 2 || k != 0 {
		t.Errorf("P16.5: %d, %d and %d objects", n, m, k)
	}
	asks(t, one, api.Ask{Op: api.OpBye})
	if one.Open() || !two.Open() || !three.Open() {
		t.Error("P16.4: one session closes another")
	}
	if n := count(two); n != 2 {
		t.Errorf("P16.5: %d objects", n)
	}
}

// A session on a nil engine says a nil engine's answers.
func TestNilEngine(t *testing.T) {
	s := NewSession(nil)
	if a := asks(t, s, hello()); a.Err != api.OK || a.Text != "graft-wire-1" {
		t.Fatalf("P16.4: %s", showSay(a))
	}
	one := []api.Label{la}
	for _, x := range []struct {
		a    api.Ask
		want api.Say
	}{
		{api.Ask{Op: api.OpImport, Data: []byte(streamOf(holding(la, "a"))), Number: 1}, api.Say{}}, {api.Ask{Op: api.OpImport, Data: []byte(streamOf(holding(la, "a")))}, api.Say{}},
		{api.Ask{Op: api.OpImport, Data: []byte("x"), Number: 1}, api.Say{Err: api.ErrMagic}}, {api.Ask{Op: api.OpImport, Number: 1}, api.Say{Err: api.ErrShort}},
		{api.Ask{Op: api.OpText, Text: "t"}, api.Say{}}, {api.Ask{Op: api.OpText}, api.Say{}}, {api.Ask{Op: api.OpTree, Text: "t", Data: file("x")}, api.Say{}}, {api.Ask{Op: api.OpTree, Data: []byte("x")}, api.Say{Err: api.ErrShort, Number: 1}},
		{api.Ask{Op: api.OpRewrite, Labels: one, Number: 1}, api.Say{}}, {api.Ask{Op: api.OpLookup, Labels: one}, api.Say{}}, {api.Ask{Op: api.OpLookup}, api.Say{Err: api.ErrArg}}, {api.Ask{Op: api.OpRead, Labels: one}, api.Say{}},
		{api.Ask{Op: api.OpRead}, api.Say{Err: api.ErrArg}}, {api.Ask{Op: api.OpVerify, Labels: one, Number: 1}, api.Say{}}, {api.Ask{Op: api.OpVerify}, api.Say{Err: api.ErrArg}}, {api.Ask{Op: api.OpList}, api.Say{}},
		{api.Ask{Op: api.OpExport, Labels: one}, api.Say{Data: []byte(streamOf())}}, {hello(), api.Say{Err: api.ErrVoid}}, {api.Ask{Op: api.OpBye}, api.Say{}},
	} {
		if got := asks(t, s, x.a); showSay(got) != showSay(x.want) {
			t.Errorf("P16.3: on a nil engine %s: %s, want %s", showAsk(x.a), showSay(got), showSay(x.want))
		}
	}
	closed(t, s)
}

func TestNilSession(t *testing.T) {
	var s *Session
	for _, p := range []string{"", "x", bytesOf(t, hello())} {
		if out := s.Feed([]byte(p)); len(out) != 0 || s.Open() {
			t.Errorf("P16.9: %q, %v", out, s.Open())
		}
	}
	if out := s.Feed(nil); len(out) != 0 {
		t.Errorf("P16.9: %q", out)
	}
}

// A message that has as many bytes as one can have is taken, also where it comes byte by byte.
func TestSessionGreatMessages(t *testing.T) {
	w := newWorld(t, 1<<20)
	s := greeted(t, w)
	great := bytesOf(t, api.Ask{Op: api.OpText, Labels: many(api.MaxObjects, longest.Name), Text: strings.Repeat("t", api.MaxWord), Data: bytes.Repeat([]byte("d"), api.MaxWord)})
	want := bytesOfSay(t, api.Say{Err: api.ErrLong})
	if out := string(s.Feed([]byte(great))); out != want || !s.Open() {
		t.Errorf("P16.5: %s", brief(out))
	}
	var got string
	b := []byte(great)
	for i := range b {
		got += string(s.Feed(b[i : i+1]))
	}
	if got != want || !s.Open() {
		t.Errorf("P16.5: byte by byte: %s", brief(got))
	}
	if a := asks(t, s, api.Ask{Op: api.OpList}); !emptySay(a) {
		t.Errorf("P16.5: %s", showSay(a))
	}
}
