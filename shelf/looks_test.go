package shelf

import (
	"fmt"
	"slices"
	"strings"
	"testing"

	"graft/api"
	"graft/journal"
)

// woven is a shelf with a ring a b c, d that needs the ring and itself, e that needs nothing.
func woven(t *testing.T) *both {
	t.Helper()
	f := fileOf("hi")
	a, b, c, d, e := named('a'), named('b'), named('c'), named('d'), named('e')
	x := begin(t, 1<<16)
	x.want("ready", api.OK, 0, put(a, f, b), put(b, f, c), put(c, fileOf("ho"), a), put(d, f, b, d), put(e, f))
	return x
}

// P12.4: Closure of no roots, of roots twice, of a root that is not there, of rings.
func TestClosure(t *testing.T) {
	b := woven(t)
	a, c, d, e := named('a'), named('c'), named('d'), named('e')
	ring := []api.Label{named('a'), named('b'), named('c')}
	for _, x := range []struct {
		roots []api.Label
		want  []api.Label
		e     api.Errno
		at    int
	}{
		{nil, nil, api.OK, 0}, {[]api.Label{}, nil, api.OK, 0}, {[]api.Label{a}, ring, api.OK, 0}, {[]api.Label{c}, ring, api.OK, 0}, {[]api.Label{c, a, c, c}, ring, api.OK, 0},
		{[]api.Label{d}, append(slices.Clone(ring), d), api.OK, 0}, {[]api.Label{e}, []api.Label{e}, api.OK, 0}, {[]api.Label{e, e}, []api.Label{e}, api.OK, 0},
		{[]api.Label{e, d}, append(slices.Clone(ring), d, e), api.OK, 0}, {[]api.Label{named('x')}, nil, api.ErrNone, 0}, {[]api.Label{a, e, named('x'), named('y')}, nil, api.ErrNone, 2},
		{[]api.Label{a, {Hash: a.Hash, Name: "aa"}}, nil, api.ErrNone, 1}, {[]api.Label{{}}, nil, api.ErrNone, 0},
	} {
		got, e, at := b.s.Closure(x.roots)
		if !slices.Equal(got, x.want) || e != x.e || at != x.at {
			t.Errorf("P12.4: Closure(%s) = %s, %d, %d", showLabels(x.roots), showLabels(got), e, at)
		}
		if e == api.OK && !slices.Equal(got, b.p.closure(x.roots...)) {
			t.Errorf("P12.4: Closure(%s) = %s", showLabels(x.roots), showLabels(got))
		}
	}
}

// P12.4: a long chain, and a shelf on which all refer to all.
func TestGreatClosure(t *testing.T) {
	s := mustOpen(t, journal.NewDevice(api.Disk{}), 1<<26)
	f := fileOf("hi")
	var chain, knot []api.Step
	for i := range 3000 {
		chain = append(chain, put(numbered(i), f, numbered((i+1)%3000)))
	}
	if e, n := s.Apply(chain); e != api.OK {
		t.Fatalf("P12.1: %d, %d", e, n)
	}
	got, e, _ := s.Closure([]api.Label{numbered(1234)})
	if e != api.OK || len(got) != 3000 || !slices.Equal(got, s.List()) {
		t.Errorf("P12.4: %d labels, %d", len(got), e)
	}
	all := manyRefs(3000 + 256)
	var refs []api.Label
	for _, l := range all {
		if !s.Has(l) {
			refs = append(refs, l)
		}
	}
	for _, l := range refs {
		knot = append(knot, put(l, f, refs...))
	}
	if e, n := s.Apply(knot); e != api.OK {
		t.Fatalf("P12.1: %d, %d", e, n)
	}
	got, e, _ = s.Closure(refs[7:8])
	if e != api.OK || !slices.Equal(got, refs) {
		t.Errorf("P12.4: %d labels, %d", len(got), e)
	}
	others := slices.DeleteFunc(slices.Clone(refs), func(l api.Label) bool { return l == refs[7] })
	if got := s.Referrers(refs[7]); !slices.Equal(got, others) {
		t.Errorf("P12.4: %d referrers", len(got))
	}
}

// P12.4: Referrers, of what is not on the shelf too.
func TestReferrers(t *testing.T) {
	b := woven(t)
	a, c, d := named('a'), named('c'), named('d')
	for _, x := range []struct {
		l    api.Label
		want []api.Label
	}{
		{a, []api.Label{c}}, {named('b'), []api.Label{a, d}}, {c, []api.Label{named('b')}}, {d, nil}, {named('e'), nil}, {named('x'), nil}, {api.Label{Hash: a.Hash, Name: "aa"}, nil}, {api.Label{}, nil},
	} {
		if got := b.s.Referrers(x.l); !slices.Equal(got, x.want) {
			t.Errorf("P12.4: Referrers(%s) = %s", showLabel(x.l), showLabels(got))
		}
	}
}

// P12.4: looks at what is there, and at what is not.
func TestLooks(t *testing.T) {
	b := woven(t)
	a := named('a')
	o := api.Object{Label: named('f'), Refs: []api.Label{a, named('f')}, Ark: fileOf("f"), Maker: textOf(named('m')), Ca: 4}
	b.want("more", api.OK, 0, putOf(o), same(named('x'), a), same(named('w'), o.Label), made("m", a), made("\xff", a), made("M", o.Label), setTo("v", "x"))
	b.want("values", api.OK, 0, setTo("empty", ""), setTo("\xff", "y"), setTo("V", "z"))
	if got, e := b.s.Get(o.Label); e != api.OK || !sameObject(got, o) {
		t.Errorf("P12.4: Get = %s, %d", showObject(got), e)
	}
	for _, l := range []api.Label{named('x'), {Hash: a.Hash, Name: "aa"}, {Hash: a.Hash}, {}, {Hash: named('x').Hash, Name: "a"}} {
		if got, e := b.s.Get(l); e != api.ErrNone || !sameObject(got, api.Object{}) || got.Ark != nil || got.Refs != nil || b.s.Has(l) {
			t.Errorf("P12.4: Get(%s) = %s, %d", showLabel(l), showObject(got), e)
		}
	}
	if l, e := b.s.Named(a.Hash); l != a || e != api.OK {
		t.Errorf("P12.4: Named = %s, %d", showLabel(l), e)
	}
	if l, e := b.s.Named(named('x').Hash); l != (api.Label{}) || e != api.ErrNone {
		t.Errorf("P12.4: Named = %s, %d", showLabel(l), e)
	}
	if got := b.s.Sames(); !slices.Equal(got, []api.Same{{Old: named('w'), New: o.Label}, {Old: named('x'), New: a}}) {
		t.Errorf("P12.4: Sames = %v", got)
	}
	if got := b.s.Mades(); !slices.Equal(got, []api.Made{{Key: "M", Label: o.Label}, {Key: "m", Label: a}, {Key: "\xff", Label: a}}) {
		t.Errorf("P12.4: Mades = %v", got)
	}
	if got := b.s.Keys(); !slices.Equal(got, []string{"V", "empty", "v", "\xff"}) {
		t.Errorf("P12.4: Keys = %q", got)
	}
	if l, e := b.s.Same(named('x')); l != a || e != api.OK {
		t.Errorf("P12.4: Same = %s, %d", showLabel(l), e)
	}
	for _, old := range []api.Label{a, {Hash: named('x').Hash, Name: "y"}, {}} {
		if l, e := b.s.Same(old); l != (api.Label{}) || e != api.ErrNone {
			t.Errorf("P12.4: Same(%s) = %s, %d", showLabel(old), showLabel(l), e)
		}
	}
	if l, e := b.s.Made("M"); l != o.Label || e != api.OK {
		t.Errorf("P12.4: Made = %s, %d", showLabel(l), e)
	}
	if data, e := b.s.Value("empty"); len(data) != 0 || e != api.OK {
		t.Errorf("P12.4: Value = %q, %d", data, e)
	}
	for _, key := range []string{"", "x", "mm", strings.Repeat("k", 300)} {
		l, e := b.s.Made(key)
		data, e2 := b.s.Value(key)
		if l != (api.Label{}) || e != api.ErrNone || data != nil || e2 != api.ErrNone {
			t.Errorf("P12.4: Made, Value(%q) = %s, %d, %q, %d", key, showLabel(l), e, data, e2)
		}
	}
	b.hold("behind looks")
}

// P12.5: Stat behind each call.
func TestStat(t *testing.T) {
	f, g := fileOf("hi"), sized(1000, "g")
	a, c := named('a'), named('c')
	s := mustOpen(t, journal.NewDevice(api.Disk{}), 5000)
	used := 52
	for i, x := range []struct {
		steps   []api.Step
		entries string
		want    api.Stat
	}{
		{nil, "", api.Stat{}},
		{[]api.Step{put(a, f)}, arkEntry(hi) + putEntry(objectWith(a, nil), 0), api.Stat{Objects: 1, Arks: 1, Bytes: 120}},
		{[]api.Step{put(c, f, a)}, putEntry(objectWith(c, nil, a), 0), api.Stat{Objects: 2, Arks: 1, Bytes: 120}},
		{[]api.Step{put(named('d'), g)}, arkEntry(string(g)) + putEntry(objectWith(named('d'), nil), 1), api.Stat{Objects: 3, Arks: 2, Bytes: 1120}},
		{[]api.Step{same(c, a), same(a, a)}, sameEntry(c, a) + sameEntry(a, a), api.Stat{Objects: 3, Arks: 2, Bytes: 1120, Sames: 2}},
		{[]api.Step{made("m", c)}, madeEntry("m", c), api.Stat{Objects: 3, Arks: 2, Bytes: 1120, Sames: 2, Mades: 1}},
		{[]api.Step{setTo("k", "vvv")}, valueEntry("k", "vvv"), api.Stat{Objects: 3, Arks: 2, Bytes: 1120, Sames: 2, Mades: 1, Values: 1}},
		{[]api.Step{drop(named('d'))}, dropEntry(named('d')), api.Stat{Objects: 2, Arks: 1, Bytes: 120, Sames: 2, Mades: 1, Values: 1}},
		{[]api.Step{drop(c), drop(a)}, dropEntry(c) + dropEntry(a), api.Stat{Values: 1}},
		{[]api.Step{void("k")}, voidEntry("k"), api.Stat{}},
	} {
		if e, n := s.Apply(x.steps); e != api.OK || n != 0 {
			t.Fatalf("P12.1: %d: %d, %d", i, e, n)
		}
		used += 26
		if x.entries != "" {
			used += 22 + len(x.entries)
		}
		x.want.Journal, x.want.Room = used, 5000-used
		if got := s.Stat(); got != x.want || s.Last() != i+1 {
			t.Errorf("P12.5: %d: %+v, want %+v", i, got, x.want)
		}
	}
	s.Compact()
	if got := s.Stat(); got != (api.Stat{Journal: 52, Room: 4948}) || s.Last() != 10 {
		t.Errorf("P12.5: compacted: %+v", got)
	}
}

// P12.5: a journal without room, and one that is longer than the limit that it is opened with.
func TestStatWithoutRoom(t *testing.T) {
	h := history{gen: 1, first: 1, base: []string{valueEntry("k", "v")}, batches: [][]string{{voidEntry("k")}, nil}}
	size := len(h.file())
	for _, limit := range []int{size + 1, size, size - 1, size / 2, 64} {
		s := mustOpen(t, h.device(), limit)
		if got := s.Stat(); got != (api.Stat{Journal: size, Room: max(0, limit-size)}) {
			t.Errorf("P12.5: limit %d of %d: %+v", limit, size, got)
		}
		v := journal.NewDevice(api.Disk{Files: [2][]byte{[]byte(h.file() + "\x9e\x04"), []byte("\x9e")}})
		if got := mustOpen(t, v, limit).Stat(); got.Journal != size {
			t.Errorf("P12.5: limit %d, torn bytes behind the good ones: %+v", limit, got)
		}
	}
}

// P12.6: every method on a shelf that is none.
func TestNil(t *testing.T) {
	for what, s := range map[string]*Shelf{"nil": nil, "zero": {}} {
		got := []any{}
		say := func(x ...any) { got = append(got, x...) }
		e, n := s.Apply([]api.Step{put(named('a'), fileOf("hi"))})
		say(e, n)
		e, n = s.Apply(make([]api.Step, 8193))
		say(e, n, s.Compact(), s.Has(named('a')), s.Last(), s.Stat() == api.Stat{})
		o, e := s.Get(named('a'))
		say(e, sameObject(o, api.Object{}))
		l, e := s.Named(api.Hash{})
		say(e, l == api.Label{})
		l, e = s.Same(named('a'))
		say(e, l == api.Label{})
		l, e = s.Made("k")
		say(e, l == api.Label{})
		data, e := s.Value("k")
		say(e, len(data))
		labels, e, n := s.Closure([]api.Label{named('a')})
		say(e, len(labels), n, len(s.List()), len(s.Referrers(named('a'))), len(s.Sames()), len(s.Mades()), len(s.Keys()))
		want := "[0 0 0 0 0 false 0 true 0 true 0 true 0 true 0 true 0 0 0 0 0 0 0 0 0 0]"
		if fmt.Sprint(got) != want {
			t.Errorf("P12.6: %s: %v, want %s", what, got, want)
		}
	}
}
