package sweep

import (
	"slices"
	"strings"
	"testing"

	"graft/api"
)

// P13.1: a root comes by one transaction of one step, with its label's text.
func TestKeep(t *testing.T) {
	s, v := world(t, "ab b")
	for _, name := range rightNames() {
		was := markOf(s, v)
		if e := Keep(s, name, named('a')); e != api.OK {
			t.Errorf("P13.1: Keep(%q) = %d", name, e)
		}
		one(t, "P13.1: "+name, s, v, was, valueByte)
		if data, e := s.Value("root:" + name); e != api.OK || string(data) != textOf(named('a')) {
			t.Errorf("13.1: the value of %q is %q, %d", name, data, e)
		}
	}
	if len(s.Keys()) != len(rightNames()) {
		t.Errorf("P13.1: the keys are %q", s.Keys())
	}
}

// P13.1: what is there with this label is left alone; with another it becomes this one, whatever it was.
func TestKeepOver(t *testing.T) {
	s, v := world(t, "ab b")
	Keep(s, "r", named('a'))
	was := markOf(s, v)
	if e := Keep(s, "r", named('a')); e != api.OK {
		t.Errorf("P13.1: once more: %d", e)
	}
	unchanged(t, "P13.1: once more", s, v, was)
	values := []string{textOf(named('b')), "", "x", textOf(named('a')) + " ", textOf(named('a'))[:40], baseOf(named('a')), strings.Repeat("x", api.MaxHeld)}
	for _, data := range values {
		mustApply(t, s, setTo("root:r", data))
		was := markOf(s, v)
		if e := Keep(s, "r", named('a')); e != api.OK {
			t.Errorf("P13.1: over %.50q: %d", data, e)
		}
		one(t, "P13.1: over another value", s, v, was, valueByte)
		if data, _ := s.Value("root:r"); string(data) != textOf(named('a')) {
			t.Errorf("P13.1: %q", data)
		}
	}
}

// P13.1: the refusals, in their order, and nothing is done.
func TestKeepRefused(t *testing.T) {
	s, v := world(t, "ab b c")
	Keep(s, "r", named('a'))
	Keep(s, "gone", named('c'))
	mustApply(t, s, takeOff(named('c')))
	was := markOf(s, v)
	away := []api.Label{named('z'), {}, {Hash: named('a').Hash, Name: "b"}, {Hash: named('a').Hash}, {Name: "a"}, {Hash: named('a').Hash, Name: "a b"}, named('c')}
	for _, name := range wrongNames() {
		for _, l := range append(away, named('a')) {
			if e := Keep(s, name, l); e != api.ErrRoot {
				t.Errorf("P13.1: Keep(%q, %v) = %d", name, l, e)
			}
		}
	}
	for _, name := range append(rightNames(), "r", "gone") {
		for _, l := range away {
			if e := Keep(s, name, l); e != api.ErrNone {
				t.Errorf("P13.1: Keep(%q, %v) = %d", name, l, e)
			}
		}
	}
	unchanged(t, "P13.1: refused", s, v, was)
}

// P13.2: a root goes by one transaction of one step; twice it does not.
func TestRelease(t *testing.T) {
	s, v := world(t, "ab b c")
	for _, name := range rightNames() {
		Keep(s, name, named('c'))
	}
	mustApply(t, s, takeOff(named('c'))) // a root whose label has gone can be released too
	for i, name := range rightNames() {
		was := markOf(s, v)
		if e := Release(s, name); e != api.OK {
			t.Errorf("P13.2: Release(%q) = %d", name, e)
		}
		one(t, "P13.2: "+name, s, v, was, voidByte)
		if _, e := s.Value("root:" + name); e != api.ErrNone || len(Roots(s)) != len(rightNames())-i-1 {
			t.Errorf("P13.2: %q is there still", name)
		}
		was = markOf(s, v)
		if e := Release(s, name); e != api.ErrRoot {
			t.Errorf("P13.2: Release(%q) twice = %d", name, e)
		}
		unchanged(t, "P13.2: twice", s, v, was)
	}
}

// P13.2: there is no such root: none of this name, a name that may not be, a value that is none.
func TestReleaseRefused(t *testing.T) {
	s, v := world(t, "a")
	Keep(s, "r", named('a'))
	Advance(s, "p", named('a'))
	for _, name := range wrongNames() {
		if len("root:"+name) <= api.MaxKey {
			mustApply(t, s, setTo("root:"+name, textOf(named('a'))))
		}
	}
	for i, data := range noLabels() {
		mustApply(t, s, setTo("root:bad"+string(rune('a'+i)), data))
	}
	was := markOf(s, v)
	names := append(wrongNames(), "R", "rr", "p", "root:r", "q")
	for i := range noLabels() {
		names = append(names, "bad"+string(rune('a'+i)))
	}
	for _, name := range names {
		if e := Release(s, name); e != api.ErrRoot {
			t.Errorf("P13.2: Release(%q) = %d", name, e)
		}
	}
	unchanged(t, "P13.2: refused", s, v, was)
}

// noLabels is values that are no label's text.
func noLabels() []string {
	a := textOf(named('a'))
	return []string{"", "x", a[:len(a)-1], a + "/", a + "\n", a + " ", " " + a, a[1:], baseOf(named('a')), strings.Replace(a, "-", "+", 1), strings.ToUpper(a), a + strings.Repeat("a", 211)}
}

// P13.3 and 13.1: what is a root, and what is none.
func TestRoots(t *testing.T) {
	s, v := world(t, "ab b c")
	if got := Roots(s); len(got) != 0 {
		t.Errorf("P13.3: of no root: %v", got)
	}
	var want []api.Root
	for i, name := range rightNames() {
		l := named("abc"[i%3])
		want = append(want, api.Root{Name: name, Label: l})
	}
	for _, r := range slices.Backward(want) {
		if e := Keep(s, r.Name, r.Label); e != api.OK {
			t.Fatalf("P13.1: %d", e)
		}
	}
	if got := Roots(s); !slices.Equal(got, want) {
		t.Errorf("P13.3: %v, want %v", got, want)
	}
	a := textOf(named('a'))
	for _, key := range []string{"root", "roo", "roots:x", "Root:x", "xroot:x", " root:x", "root;x", "profile:x", "r", "rootx"} {
		mustApply(t, s, setTo(key, a))
	}
	for _, name := range wrongNames() {
		if len("root:"+name) <= api.MaxKey {
			mustApply(t, s, setTo("root:"+name, a))
		}
	}
	for i, data := range noLabels() {
		mustApply(t, s, setTo("root:bad"+string(rune('a'+i)), data))
	}
	mustApply(t, s, takeOff(named('c'))) // its roots are there still
	was := markOf(s, v)
	if got := Roots(s); !slices.Equal(got, want) {
		t.Errorf("P13.3: %v, want %v", got, want)
	}
	unchanged(t, "P13.3: a look", s, v, was)
	mustApply(t, s, setTo("root:zz", textOf(named('y')))) // a label that was never there
	if got := Roots(s); len(got) != len(want)+1 || !slices.Contains(got, api.Root{Name: "zz", Label: named('y')}) {
		t.Errorf("P13.3: %v", got)
	}
}

// 13.1: a root that was laid down as a value, by hand, is one.
func TestRootByHand(t *testing.T) {
	s, v := world(t, "a b")
	mustApply(t, s, setTo("root:r", textOf(named('a'))))
	was := markOf(s, v)
	if e := Keep(s, "r", named('a')); e != api.OK {
		t.Errorf("P13.1: %d", e)
	}
	unchanged(t, "P13.1: it is there", s, v, was)
	if got := lettersOf(Live(s, nil)); got != "a" {
		t.Errorf("P13.8: %s", got)
	}
	if e := Release(s, "r"); e != api.OK || len(s.Keys()) != 0 {
		t.Errorf("P13.2: %d, %q", e, s.Keys())
	}
}
