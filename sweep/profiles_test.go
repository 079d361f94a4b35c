package sweep

import (
	"fmt"
	"slices"
	"strings"
	"testing"

	"graft/api"
	"graft/journal"
	"graft/shelf"
)

func gen(number int, letter byte) api.Gen { return api.Gen{Number: number, Label: named(letter)} }

// manyGens is so many generations, from 1 on.
func manyGens(n int) []api.Gen {
	var out []api.Gen
	for i := range n {
		out = append(out, gen(i+1, "ab"[i%2]))
	}
	return out
}

// longLabel has a name of 211 bytes.
func longLabel() api.Label {
	return api.Label{Hash: named('l').Hash, Name: strings.Repeat("l", 211)}
}

// wellFormed is values of profiles, and what they say; LAST too.
func wellFormed() map[string]profile {
	out := map[string]profile{}
	add := func(now, last int, gens ...api.Gen) {
		out[valueOf(now, last, gens...)] = profile{now, last, gens}
	}
	add(0, 0)
	add(0, 7)
	add(0, api.MaxGen)
	add(1, 1, gen(1, 'a'))
	add(0, 1, gen(1, 'a'))
	add(2, 9, gen(2, 'b'), gen(5, 'a'), gen(9, 'b'))
	add(5, 9, gen(2, 'b'), gen(5, 'a'), gen(9, 'b'))
	add(9, 300, gen(2, 'b'), gen(5, 'z'), gen(9, 'b'))
	add(api.MaxGen, api.MaxGen, gen(1, 'a'), gen(api.MaxGen, 'a'))
	add(api.MaxGen-1, api.MaxGen, gen(api.MaxGen-1, 'a'), gen(api.MaxGen, 'a'))
	add(250, 250, manyGens(250)...)
	add(1, 70000, append(manyGens(249), api.Gen{Number: 65536, Label: longLabel()})...)
	return out
}

// illFormed is values that are no profiles.
func illFormed() []string {
	a, b := gen(1, 'a'), gen(2, 'b')
	good := valueOf(2, 3, a, b, gen(3, 'a'))
	out := []string{"x", "xyz", good + "\x00", good + "x", valueOf(0, 0) + "\x00", good + good}
	for i := range len(good) {
		if i != 8 && i != len(valueOf(2, 3, a)) && i != len(valueOf(2, 3, a, b)) {
			out = append(out, good[:i])
		}
	}
	return append(out,
		valueOf(2, 3), valueOf(2, 3, a), // cut off between generations: NOW is none of them
		valueOf(0, 2, b, a), valueOf(0, 2, a, a), valueOf(0, 2, a, b, b), valueOf(0, 2, a, b, a), // not rising
		valueOf(0, 2, gen(0, 'a')), valueOf(0, 2, gen(0, 'a'), a), valueOf(0, 0, gen(0, 'a')), // 0
		valueOf(0, 1, a, b), valueOf(0, 1, b), valueOf(0, 0, a), valueOf(0, 300, gen(301, 'a')), // above LAST
		valueOf(0, 1<<31), valueOf(0, 1<<31, a), valueOf(0, 1<<32-1), valueOf(0, 1<<31, gen(1<<31, 'a')), // LAST
		valueOf(3, 3, a, b), valueOf(1, 3, b), valueOf(1, 1), valueOf(1<<31, 3, a), valueOf(1<<32-1, 3, a), // NOW
		valueOf(0, 251, manyGens(251)...), valueOf(0, 1000, manyGens(1000)...), // too many
		four(0)+four(1)+four(1)+text(""), four(0)+four(1)+four(1)+text("x"), four(0)+four(1)+four(1)+text(textOf(named('a'))), // bases that are none
		four(0)+four(1)+four(1)+text(baseOf(named('a'))[:33]), four(0)+four(1)+four(1)+text(baseOf(named('a'))+" "), four(0)+four(1)+four(1)+text("e"+baseOf(named('a'))[1:]),
		four(0)+four(1)+four(1)+text(baseOf(longLabel())+"l"), four(0)+four(2)+genOf(1, named('a'))+four(2)+text("x"),
		four(0)+four(1)+four(1)+four(1<<32-1)+baseOf(named('a')), four(0)+four(1)+four(1)+four(1<<31)+baseOf(named('a')),
	)
}

func sameProfile(got api.Profile, name string, want profile) bool {
	return got.Name == name && got.Now == want.now && slices.Equal(got.Gens, want.gens)
}

// 13.2: values that are profiles: each call sees them so.
func TestWellFormed(t *testing.T) {
	for value, want := range wellFormed() {
		s, v := world(t, "a b", setTo("profile:p", value))
		was := markOf(s, v)
		got := Profiles(s)
		if len(got) != 1 || !sameProfile(got[0], "p", want) {
			t.Errorf("13.2: %.60q is %v", value, got)
		}
		if e := Switch(s, "p", want.now); e != api.OK {
			t.Errorf("13.2: Switch of %.60q = %d", value, e)
		}
		if n, e := Trim(s, "p", 250); n != 0 || e != api.OK {
			t.Errorf("13.2: Trim of %.60q = %d, %d", value, n, e)
		}
		unchanged(t, "13.2", s, v, was)
		for _, g := range want.gens {
			if e := Switch(s, "p", g.Number); e != api.OK {
				t.Errorf("P13.5: %d of %.60q: %d", g.Number, value, e)
			}
			if data, _ := s.Value("profile:p"); string(data) != valueOf(g.Number, want.last, want.gens...) {
				t.Errorf("P13.5: %.60q, then %.60q", value, data)
			}
		}
	}
}

// 13.2: values that are none: they are left out, left alone, and keep nothing alive.
func TestIllFormed(t *testing.T) {
	for _, value := range illFormed() {
		s, v := world(t, "a b", setTo("profile:p", value))
		was := markOf(s, v)
		if got := Profiles(s); len(got) != 0 {
			t.Errorf("P13.7: %.80q is %v", value, got)
		}
		if n, e := Advance(s, "p", named('a')); n != 0 || e != api.ErrProfile {
			t.Errorf("P13.4: of %.80q: %d, %d", value, n, e)
		}
		for _, number := range []int{0, 1, 2, 3} {
			if e := Switch(s, "p", number); e != api.ErrProfile {
				t.Errorf("P13.5: of %.80q: %d", value, e)
			}
		}
		for _, keep := range []int{0, 1, 1000} {
			if n, e := Trim(s, "p", keep); n != 0 || e != api.ErrProfile {
				t.Errorf("P13.6: of %.80q: %d, %d", value, n, e)
			}
		}
		if n, e := Trim(s, "p", -1); n != 0 || e != api.ErrArg {
			t.Errorf("P13.6: of %.80q: %d, %d", value, n, e)
		}
		if got := Live(s, nil); len(got) != 0 {
			t.Errorf("P13.8: by %.80q: %s", value, showLabels(got))
		}
		unchanged(t, "13.2", s, v, was)
		if e := Keep(s, "p", named('a')); e != api.OK {
			t.Errorf("P13.1: %d", e)
		}
	}
}

// 13.2: the greatest value has 8 and 250 times 252 bytes: it is laid down, and read again.
func TestGreatestProfile(t *testing.T) {
	l := longLabel()
	k := api.Label{Hash: named('k').Hash, Name: strings.Repeat("k", 211)}
	s := mustOpen(t, journal.NewDevice(api.Disk{}), api.MaxRoom)
	mustApply(t, s, put(l, "l"), put(k, "k"))
	var want []api.Gen
	for i := range 250 {
		x := []api.Label{l, k}[i%2]
		if n, e := Advance(s, "p", x); n != i+1 || e != api.OK {
			t.Fatalf("P13.4: %d: %d, %d", i, n, e)
		}
		want = append(want, api.Gen{Number: i + 1, Label: x})
	}
	data, _ := s.Value("profile:p")
	if len(data) != 8+250*252 || string(data) != valueOf(250, 250, want...) {
		t.Errorf("13.2: %d bytes", len(data))
	}
	if got := Profiles(s); len(got) != 1 || !slices.Equal(got[0].Gens, want) {
		t.Errorf("P13.7")
	}
}

// P13.4: a new generation is the present one, by one transaction of one step.
func TestAdvance(t *testing.T) {
	s, v := world(t, "a b c")
	var gens []api.Gen
	for i, letter := range []byte("abcab") {
		was := markOf(s, v)
		if n, e := Advance(s, "p", named(letter)); n != i+1 || e != api.OK {
			t.Errorf("P13.4: %d: %d, %d", i, n, e)
		}
		one(t, "P13.4", s, v, was, valueByte)
		gens = append(gens, gen(i+1, letter))
		if data, _ := s.Value("profile:p"); string(data) != valueOf(i+1, i+1, gens...) {
			t.Errorf("13.2: %q", data)
		}
		was = markOf(s, v)
		if n, e := Advance(s, "p", named(letter)); n != i+1 || e != api.OK {
			t.Errorf("P13.4: of the present label: %d: %d, %d", i, n, e)
		}
		unchanged(t, "P13.4: of the present label", s, v, was)
	}
	if e := Switch(s, "p", 0); e != api.OK {
		t.Fatalf("P13.5: %d", e)
	}
	if n, e := Advance(s, "p", named('b')); n != 6 || e != api.OK { // the last one has it, but none is present
		t.Errorf("P13.4: with none present: %d, %d", n, e)
	}
	if len(s.Keys()) != 1 {
		t.Errorf("P13.4: the keys are %q", s.Keys())
	}
}

// P13.4: the present one need not be the last one.
func TestAdvanceFromOlder(t *testing.T) {
	s, v := world(t, "a b", setTo("profile:p", valueOf(3, 20, gen(3, 'a'), gen(8, 'b'))))
	was := markOf(s, v)
	if n, e := Advance(s, "p", named('a')); n != 3 || e != api.OK {
		t.Errorf("P13.4: of the present label: %d, %d", n, e)
	}
	unchanged(t, "P13.4: of the present label", s, v, was)
	if n, e := Advance(s, "p", named('b')); n != 21 || e != api.OK {
		t.Errorf("P13.4: of the label of a later one: %d, %d", n, e)
	}
	if data, _ := s.Value("profile:p"); string(data) != valueOf(21, 21, gen(3, 'a'), gen(8, 'b'), gen(21, 'b')) {
		t.Errorf("P13.4: %q", data)
	}
}

// P13.4: the errors, in their order.
func TestAdvanceRefused(t *testing.T) {
	last := func(now, last int, gens ...api.Gen) string { return valueOf(now, last, gens...) }
	most := manyGens(250)
	s, v := world(t, "a b",
		setTo("profile:bad", "xyz"), setTo("profile:empty", ""), setTo("profile:end", last(0, api.MaxGen)), setTo("profile:most", last(250, 250, most...)),
		setTo("profile:both", last(1, api.MaxGen, most...)), setTo("profile:near", last(0, api.MaxGen-1)), setTo("profile:gone", last(1, 1, gen(1, 'z'))),
		setTo("profile:less", last(249, 400, most[:249]...)), setTo("profile:here", last(api.MaxGen, api.MaxGen, gen(api.MaxGen, 'a'))))
	was := markOf(s, v)
	a, b, z := named('a'), named('b'), named('z')
	for _, x := range []struct {
		name string
		l    api.Label
		n    int
		e    api.Errno
	}{
		{"bad", a, 0, api.ErrProfile}, {"bad", z, 0, api.ErrProfile}, {"empty", a, 0, api.ErrProfile},
		{"new", z, 0, api.ErrNone}, {"end", z, 0, api.ErrNone}, {"most", z, 0, api.ErrNone}, {"gone", z, 0, api.ErrNone},
		{"new", api.Label{}, 0, api.ErrNone}, {"new", api.Label{Hash: a.Hash, Name: "b"}, 0, api.ErrNone}, {"most", api.Label{Hash: b.Hash}, 0, api.ErrNone},
		{"end", a, 0, api.ErrEnd}, {"both", b, 0, api.ErrEnd}, {"here", b, 0, api.ErrEnd}, {"most", a, 0, api.ErrFull},
		{"most", b, 250, api.OK}, {"both", a, 1, api.OK}, {"here", a, api.MaxGen, api.OK}, // of the present label: nothing is done
	} {
		if n, e := Advance(s, x.name, x.l); n != x.n || e != x.e {
			t.Errorf("P13.4: Advance(%q, %s) = %d, %d, want %d, %d", x.name, showLabels([]api.Label{x.l}), n, e, x.n, x.e)
		}
	}
	for _, name := range wrongNames() {
		for _, l := range []api.Label{a, z} {
			if n, e := Advance(s, name, l); n != 0 || e != api.ErrProfile {
				t.Errorf("P13.4: Advance(%q) = %d, %d", name, n, e)
			}
		}
	}
	unchanged(t, "P13.4: refused", s, v, was)
	if n, e := Advance(s, "near", a); n != api.MaxGen || e != api.OK {
		t.Errorf("P13.4: the last number: %d, %d", n, e)
	}
	if n, e := Advance(s, "near", b); n != 0 || e != api.ErrEnd {
		t.Errorf("P13.4: behind the last number: %d, %d", n, e)
	}
	if n, e := Advance(s, "less", b); n != 401 || e != api.OK {
		t.Errorf("P13.4: the last place: %d, %d", n, e)
	}
	if n, e := Advance(s, "less", a); n != 0 || e != api.ErrFull {
		t.Errorf("P13.4: behind the last place: %d, %d", n, e)
	}
}

// P13.4: names that may be.
func TestProfileNames(t *testing.T) {
	s, _ := world(t, "a")
	for _, name := range slices.Backward(rightNames()) {
		if n, e := Advance(s, name, named('a')); n != 1 || e != api.OK {
			t.Errorf("P13.4: Advance(%q) = %d, %d", name, n, e)
		}
	}
	got := Profiles(s)
	if len(got) != len(rightNames()) {
		t.Fatalf("P13.7: %v", got)
	}
	for i, name := range rightNames() {
		if !sameProfile(got[i], name, profile{1, 1, []api.Gen{gen(1, 'a')}}) {
			t.Errorf("P13.7: %v", got[i])
		}
		if data, _ := s.Value("profile:" + name); string(data) != valueOf(1, 1, gen(1, 'a')) {
			t.Errorf("13.2: the value of %q is %q", name, data)
		}
	}
}

// P13.5.
func TestSwitch(t *testing.T) {
	gens := []api.Gen{gen(2, 'a'), gen(5, 'b'), gen(9, 'a')}
	s, v := world(t, "a b", setTo("profile:p", valueOf(5, 11, gens...)), setTo("profile:none", valueOf(0, 4)))
	was := markOf(s, v)
	for _, number := range []int{1, 3, 4, 6, 8, 10, 11, 12, -1, -5, 1 << 31, 1<<32 + 2, 1<<32 + 5, 1 << 62, -1 << 63} {
		if e := Switch(s, "p", number); e != api.ErrProfile {
			t.Errorf("P13.5: Switch(%d) = %d", number, e)
		}
		if e := Switch(s, "none", number); e != api.ErrProfile {
			t.Errorf("P13.5: Switch(%d) of no generations = %d", number, e)
		}
	}
	for _, name := range append(wrongNames(), "q", "P", "pp") {
		for _, number := range []int{0, 2} {
			if e := Switch(s, name, number); e != api.ErrProfile {
				t.Errorf("P13.5: Switch(%q) = %d", name, e)
			}
		}
	}
	if Switch(s, "p", 5) != api.OK || Switch(s, "none", 0) != api.OK {
		t.Errorf("P13.5: to NOW")
	}
	unchanged(t, "P13.5: nothing is done", s, v, was)
	for _, number := range []int{2, 9, 5, 0, 9, 0, 2} {
		was := markOf(s, v)
		if e := Switch(s, "p", number); e != api.OK {
			t.Errorf("P13.5: Switch(%d) = %d", number, e)
		}
		one(t, "P13.5", s, v, was, valueByte)
		if data, _ := s.Value("profile:p"); string(data) != valueOf(number, 11, gens...) {
			t.Errorf("P13.5: %q", data)
		}
	}
}

// P13.6: which go: all but the present one and so many of the last ones.
func TestTrim(t *testing.T) {
	gens := []api.Gen{gen(2, 'a'), gen(5, 'b'), gen(9, 'a'), gen(10, 'a'), gen(20, 'b')}
	for _, now := range []int{0, 2, 5, 9, 10, 20} {
		for _, keep := range []int{0, 1, 2, 3, 4, 5, 6, 249, 250, 251, 1 << 32, 1<<32 + 1, 1<<63 - 1} {
			s, v := world(t, "a b", setTo("profile:p", valueOf(now, 30, gens...)))
			was := markOf(s, v)
			var left []api.Gen
			for i, g := range gens {
				if g.Number == now || len(gens)-i <= keep {
					left = append(left, g)
				}
			}
			want := len(gens) - len(left)
			if n, e := Trim(s, "p", keep); n != want || e != api.OK {
				t.Errorf("P13.6: Trim to %d with %d present = %d, %d, want %d", keep, now, n, e, want)
			}
			if want == 0 {
				unchanged(t, "P13.6: none goes", s, v, was)
			} else {
				one(t, "P13.6", s, v, was, valueByte)
			}
			if data, _ := s.Value("profile:p"); string(data) != valueOf(now, 30, left...) {
				t.Errorf("P13.6: Trim to %d with %d present: %q", keep, now, data)
			}
			was = markOf(s, v)
			if n, e := Trim(s, "p", keep); n != 0 || e != api.OK {
				t.Errorf("P13.6: twice: %d, %d", n, e)
			}
			unchanged(t, "P13.6: twice", s, v, was)
		}
	}
}

// P13.6: the refusals, in their order.
func TestTrimRefused(t *testing.T) {
	s, v := world(t, "a b", setTo("profile:p", valueOf(0, 3, gen(1, 'a'), gen(3, 'b'))), setTo("profile:bad", "xyz"), setTo("profile:none", valueOf(0, 3)))
	was := markOf(s, v)
	for _, name := range append(wrongNames(), "p", "q", "bad", "none") {
		for _, keep := range []int{-1, -2, -1 << 63} {
			if n, e := Trim(s, name, keep); n != 0 || e != api.ErrArg {
				t.Errorf("P13.6: Trim(%q, %d) = %d, %d", name, keep, n, e)
			}
		}
	}
	for _, name := range append(wrongNames(), "q", "bad") {
		if n, e := Trim(s, name, 0); n != 0 || e != api.ErrProfile {
			t.Errorf("P13.6: Trim(%q) = %d, %d", name, n, e)
		}
	}
	if n, e := Trim(s, "none", 0); n != 0 || e != api.OK {
		t.Errorf("P13.6: of no generations: %d, %d", n, e)
	}
	unchanged(t, "P13.6: refused", s, v, was)
}

// P13.4: a number is never used again, also if its generation is trimmed.
func TestNumbersOnce(t *testing.T) {
	s, v := world(t, "a b")
	used := map[int]struct{}{}
	for i := range 40 {
		n, e := Advance(s, "p", named("ab"[i%2]))
		if _, twice := used[n]; twice || n != i+1 || e != api.OK {
			t.Errorf("P13.4: %d: %d, %d", i, n, e)
		}
		used[n] = struct{}{}
		switch i % 5 {
		case 1:
			Switch(s, "p", 0)
			Trim(s, "p", 0)
		case 3:
			Trim(s, "p", 1)
		case 4: // over another opening
			s, v = again(t, v, 1<<22)
		}
	}
}

// P13.7: also those without a generation, and no values that are none.
func TestProfiles(t *testing.T) {
	s, v := world(t, "a b", setTo("profile:q", valueOf(0, 0)), setTo("profile:p", valueOf(2, 3, gen(2, 'a'), gen(3, 'z'))), setTo("profile:o", valueOf(0, 9)))
	good := valueOf(1, 1, gen(1, 'a'))
	for _, key := range []string{"profile", "profile;x", "profiles:x", "Profile:x", "xprofile:x", " profile:x", "profile:", "root:x", "rofile:x"} {
		mustApply(t, s, setTo(key, good))
	}
	for _, name := range wrongNames() {
		if len("profile:"+name) <= api.MaxKey {
			mustApply(t, s, setTo("profile:"+name, good))
		}
	}
	was := markOf(s, v)
	got := Profiles(s)
	if len(got) != 3 || !sameProfile(got[0], "o", profile{0, 9, nil}) || !sameProfile(got[1], "p", profile{2, 3, []api.Gen{gen(2, 'a'), gen(3, 'z')}}) || !sameProfile(got[2], "q", profile{}) {
		t.Errorf("P13.7: %v", got)
	}
	if l := lettersOf(Live(s, nil)); l != "a" { // by p alone
		t.Errorf("P13.8: %s", l)
	}
	unchanged(t, "P13.7: a look", s, v, was)
	for _, name := range wrongNames() {
		if n, e := Advance(s, name, named('a')); n != 0 || e != api.ErrProfile {
			t.Errorf("P13.4: Advance(%q) = %d, %d", name, n, e)
		}
		if e := Switch(s, name, 0); e != api.ErrProfile {
			t.Errorf("P13.5: Switch(%q) = %d", name, e)
		}
		if n, e := Trim(s, name, 0); n != 0 || e != api.ErrProfile {
			t.Errorf("P13.6: Trim(%q) = %d, %d", name, n, e)
		}
	}
	unchanged(t, "P13.4: refused", s, v, was)
	if s, _ := world(t, "a"); len(Profiles(s)) != 0 {
		t.Errorf("P13.7: of none")
	}
}

// P13.13: back and forth.
func TestBackAndForth(t *testing.T) {
	s, _ := world(t, "a b c", setTo("k", "v"))
	Keep(s, "r", named('c'))
	Advance(s, "q", named('b'))
	Advance(s, "p", named('a'))
	told := tell(s)
	was, _ := s.Value("profile:p")
	if n, e := Advance(s, "p", named('b')); n != 2 || e != api.OK || Profiles(s)[0].Now != 2 {
		t.Fatalf("P13.13: %d, %d, %v", n, e, Profiles(s))
	}
	if e := Switch(s, "p", 1); e != api.OK {
		t.Fatalf("P13.5: %d", e)
	}
	data, _ := s.Value("profile:p")
	if want := string(was[:4]) + four(2) + string(was[8:]) + genOf(2, named('b')); string(data) != want {
		t.Errorf("P13.13: %q, want %q", data, want)
	}
	mustApply(t, s, setTo("profile:p", string(was)))
	if got := tell(s); got != told {
		t.Errorf("P13.13: something else has changed: %s", firstUnlike(got, told))
	}
}

// W14: behind any calls the present generation is the last one that was switched to or made and not trimmed, and what
// any generation leads to is live.
func TestAnyProfile(t *testing.T) {
	r := sourceOf(14)
	for range 60 {
		s, v := world(t, "ab b cd dc e")
		present, made := 0, 0
		var kept []api.Gen
		for range 60 {
			switch r.IntN(4) {
			case 0, 1:
				l := named("abcde"[r.IntN(5)])
				at := slices.IndexFunc(kept, func(g api.Gen) bool { return g.Number == present })
				if at < 0 || kept[at].Label != l {
					made++
					present, kept = made, append(kept, api.Gen{Number: made, Label: l})
				}
				if n, e := Advance(s, "p", l); n != present || e != api.OK {
					t.Fatalf("P13.4: %d, %d, want %d", n, e, present)
				}
			case 2:
				number := r.IntN(made + 2)
				e := Switch(s, "p", number)
				there := number == 0 && made > 0 || slices.ContainsFunc(kept, func(g api.Gen) bool { return g.Number == number })
				if there {
					present = number
				}
				if (e == api.OK) != there {
					t.Fatalf("P13.5: Switch(%d) = %d", number, e)
				}
			case 3:
				keep := r.IntN(6)
				var left []api.Gen
				for i, g := range kept {
					if g.Number == present || i >= len(kept)-keep {
						left = append(left, g)
					}
				}
				want := len(kept) - len(left)
				if n, e := Trim(s, "p", keep); n != want || (e == api.OK) != (made > 0) {
					t.Fatalf("P13.6: %d, %d, want %d", n, e, want)
				}
				kept = left
			}
			holdProfile(t, s, present, made, kept)
		}
		s, _ = again(t, v, 1<<22)
		holdProfile(t, s, present, made, kept)
	}
}

// holdProfile holds what a shelf says of its one profile.
func holdProfile(t *testing.T, s *shelf.Shelf, present, made int, kept []api.Gen) {
	t.Helper()
	got := Profiles(s)
	if made == 0 && len(got) == 0 {
		return
	}
	if len(got) != 1 || got[0].Now != present || !slices.Equal(got[0].Gens, kept) {
		t.Fatalf("W14: %v, want %d, %v", got, present, kept)
	}
	live := Live(s, nil)
	for _, g := range kept {
		closure, _, _ := s.Closure([]api.Label{g.Label})
		for _, l := range closure {
			if !slices.Contains(live, l) {
				t.Fatalf("W14: %s is not live", showLabels([]api.Label{l}))
			}
		}
	}
}

// Each call that changes something, on a shelf that refuses the transaction: its error, and nothing has changed.
func TestRefusedByShelf(t *testing.T) {
	s, v := world(t, "a b", setTo("root:r", textOf(named('a'))), setTo("profile:p", valueOf(1, 2, gen(1, 'a'), gen(2, 'b'))))
	holdRefused(t, v, api.MinRoom, api.ErrFull)
	holdRefused(t, v, s.Stat().Journal, api.ErrFull)
	end := moved(t, s, v, 1, api.MaxNumber)
	mustApply(t, mustOpen(t, end, 1<<22)) // the last batch
	holdRefused(t, end, 1<<22, api.ErrEnd)
}

// asking is a call, and what it answers to.
type asking struct {
	what string
	ask  func(s *shelf.Shelf) (int, api.Errno)
	n    int
	e    api.Errno
}

// holdRefused holds what each call answers on a shelf over a device's bytes that refuses all transactions so.
func holdRefused(t *testing.T, v *journal.Device, limit int, refused api.Errno) {
	t.Helper()
	a, b := named('a'), named('b')
	for _, x := range []asking{
		{"P13.1: a new root", func(s *shelf.Shelf) (int, api.Errno) { return 0, Keep(s, "new", b) }, 0, refused},
		{"P13.1: another label", func(s *shelf.Shelf) (int, api.Errno) { return 0, Keep(s, "r", b) }, 0, refused},
		{"P13.2", func(s *shelf.Shelf) (int, api.Errno) { return 0, Release(s, "r") }, 0, refused},
		{"P13.4: a new profile", func(s *shelf.Shelf) (int, api.Errno) { return Advance(s, "new", a) }, 0, refused},
		{"P13.4", func(s *shelf.Shelf) (int, api.Errno) { return Advance(s, "p", b) }, 0, refused},
		{"P13.5", func(s *shelf.Shelf) (int, api.Errno) { return 0, Switch(s, "p", 2) }, 0, refused},
		{"P13.5: to none", func(s *shelf.Shelf) (int, api.Errno) { return 0, Switch(s, "p", 0) }, 0, refused},
		{"P13.6", func(s *shelf.Shelf) (int, api.Errno) { return Trim(s, "p", 0) }, 0, refused},
		{"P13.1: nothing is done", func(s *shelf.Shelf) (int, api.Errno) { return 0, Keep(s, "r", a) }, 0, api.OK},
		{"P13.4: nothing is done", func(s *shelf.Shelf) (int, api.Errno) { return Advance(s, "p", a) }, 1, api.OK},
		{"P13.5: nothing is done", func(s *shelf.Shelf) (int, api.Errno) { return 0, Switch(s, "p", 1) }, 0, api.OK},
		{"P13.6: nothing is done", func(s *shelf.Shelf) (int, api.Errno) { return Trim(s, "p", 2) }, 0, api.OK},
		{"P13.1: an error ahead", func(s *shelf.Shelf) (int, api.Errno) { return 0, Keep(s, "", b) }, 0, api.ErrRoot},
		{"P13.2: an error ahead", func(s *shelf.Shelf) (int, api.Errno) { return 0, Release(s, "p") }, 0, api.ErrRoot},
		{"P13.4: an error ahead", func(s *shelf.Shelf) (int, api.Errno) { return Advance(s, "p", named('z')) }, 0, api.ErrNone},
		{"P13.5: an error ahead", func(s *shelf.Shelf) (int, api.Errno) { return 0, Switch(s, "p", 3) }, 0, api.ErrProfile},
		{"P13.6: an error ahead", func(s *shelf.Shelf) (int, api.Errno) { return Trim(s, "p", -1) }, 0, api.ErrArg},
	} {
		s, w := again(t, v, limit)
		was := markOf(s, w)
		if n, e := x.ask(s); n != x.n || e != x.e {
			t.Errorf("%s: %d, %d, want %d, %d", x.what, n, e, x.n, x.e)
		}
		unchanged(t, x.what, s, w, was)
	}
}

// A shelf with all its values: new roots and profiles are refused, and those that are there can change.
func TestFullValues(t *testing.T) {
	steps := []api.Step{setTo("root:r", textOf(named('a'))), setTo("profile:p", valueOf(1, 1, gen(1, 'a')))}
	for i := range 1022 {
		steps = append(steps, setTo(fmt.Sprint("k", i), ""))
	}
	s, v := world(t, "a b", steps...)
	was := markOf(s, v)
	if e := Keep(s, "new", named('a')); e != api.ErrFull {
		t.Errorf("P13.1: %d", e)
	}
	if n, e := Advance(s, "new", named('a')); n != 0 || e != api.ErrFull {
		t.Errorf("P13.4: %d, %d", n, e)
	}
	unchanged(t, "refused", s, v, was)
	if e := Keep(s, "r", named('b')); e != api.OK {
		t.Errorf("P13.1: %d", e)
	}
	if n, e := Advance(s, "p", named('b')); n != 2 || e != api.OK {
		t.Errorf("P13.4: %d, %d", n, e)
	}
	if e := Release(s, "r"); e != api.OK || Keep(s, "new", named('a')) != api.OK {
		t.Errorf("P13.2: %d", e)
	}
}
