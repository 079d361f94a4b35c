package shelf

import (
	"fmt"
	"strings"
	"testing"

	"graft/api"
	"graft/journal"
)

// 12.1, P12.1: MaxObjects objects, and one more.
func TestManyObjects(t *testing.T) {
	f := fileOf("hi")
	b := begin(t, 1<<26)
	var steps []api.Step
	for i := range 4095 {
		steps = append(steps, put(numbered(i), f))
	}
	b.want("4095", api.OK, 0, steps...)
	b.want("two more", api.ErrFull, 1, put(named('a'), f), put(named('b'), f))
	b.want("one more", api.OK, 0, put(named('a'), f))
	b.want("full", api.ErrFull, 0, put(named('b'), f))
	b.want("full, with a new ark", api.ErrFull, 0, put(named('b'), fileOf("ho")))
	b.want("not right ahead of full", api.ErrObject, 0, put(named('b'), nil))
	b.want("a clash ahead of full", api.ErrClash, 0, put(api.Label{Hash: named('a').Hash, Name: "aa"}, f))
	b.want("another one ahead of full", api.ErrThere, 0, put(named('a'), fileOf("ho")))
	b.want("what is there already", api.OK, 0, put(named('a'), f))
	b.want("one goes and one comes", api.OK, 0, drop(named('a')), put(named('b'), f))
	b.want("one comes ahead of the one that goes", api.ErrFull, 0, put(named('a'), f), drop(named('b')))
	b.holdDevice("4096 objects")
	if c := b.s.Stat(); c.Objects != 4096 || c.Arks != 1 || c.Bytes != 120 {
		t.Errorf("P12.5: %+v", c)
	}
	h := historyOf(t, b.v)
	if s := mustOpen(t, h.device(), 1<<26); s.Stat() != b.s.Stat() {
		t.Errorf("P12.7: %+v, want %+v", s.Stat(), b.s.Stat())
	}
	h.batches = append(h.batches, []string{putEntry(objectWith(named('a'), nil), 0)})
	if s, e, batch, at := Open(h.device(), 1<<26); s != nil || e != api.ErrState || batch != len(h.batches) || at != 0 {
		t.Errorf("P12.3: one object too many: %d, %d, %d", e, batch, at)
	}
	if e := b.compact(); e != api.OK {
		t.Errorf("P12.2: %d", e)
	}
	b.holdDevice("4096 objects, compacted")
}

// 12.1, P12.1: MaxSames, MaxMades and MaxValues, and one more.
func TestManyRows(t *testing.T) {
	f := fileOf("hi")
	a, c := named('a'), named('c')
	key := func(i int) string { return fmt.Sprint("k", i) }
	for _, x := range []struct {
		what  string
		most  int
		row   func(i int) api.Step
		turn  func(i int) api.Step // another one of the same key
		there api.Errno
		entry func(i int) string
	}{
		{"sames", 8192, func(i int) api.Step { return same(numbered(i), a) }, func(i int) api.Step { return same(numbered(i), c) }, api.ErrThere, func(i int) string { return sameEntry(numbered(i), a) }},
		{"mades", 8192, func(i int) api.Step { return made(key(i), a) }, func(i int) api.Step { return made(key(i), c) }, api.ErrThere, func(i int) string { return madeEntry(key(i), a) }},
		{"values", 1024, func(i int) api.Step { return setTo(key(i), "") }, func(i int) api.Step { return setTo(key(i), "v") }, api.OK, func(i int) string { return valueEntry(key(i), "") }},
	} {
		b := begin(t, 1<<24)
		b.want("ready", api.OK, 0, put(a, f), put(c, f))
		var steps []api.Step
		for i := range x.most - 1 {
			steps = append(steps, x.row(i))
		}
		b.want(x.what, api.OK, 0, steps...)
		b.want(x.what+": two more", api.ErrFull, 1, x.row(x.most), x.row(x.most+1))
		b.want(x.what+": one more", api.OK, 0, x.row(x.most))
		b.want(x.what+": full", api.ErrFull, 0, x.row(x.most+1))
		b.want(x.what+": one that is there", api.OK, 0, x.row(0))
		b.want(x.what+": another one that is there", x.there, 0, x.turn(0))
		b.hold(x.what)
		h := historyOf(t, b.v)
		h.batches = append(h.batches, []string{"", x.entry(x.most + 1)})
		if s, e, batch, at := Open(h.device(), 1<<24); s != nil || e != api.ErrState || batch != len(h.batches) || at != 1 {
			t.Errorf("P12.3: %s: one too many: %d, %d, %d", x.what, e, batch, at)
		}
	}
}

// P12.1, same and made: their other errors come ahead of ErrFull.
func TestFullIsLast(t *testing.T) {
	f, a := fileOf("hi"), named('a')
	b := begin(t, 1<<24)
	b.want("ready", api.OK, 0, put(a, f), put(named('c'), f))
	var sames, mades []api.Step
	for i := range 8192 {
		sames, mades = append(sames, same(numbered(i), a)), append(mades, made(fmt.Sprint(i), a))
	}
	b.want("sames", api.OK, 0, sames...)
	b.want("mades", api.OK, 0, mades...)
	b.want("not printable", api.ErrArg, 0, same(api.Label{}, a))
	b.want("no object", api.ErrNone, 0, same(named('x'), named('d')))
	b.want("no key", api.ErrArg, 0, made("", a))
	b.want("no object", api.ErrNone, 0, made("x", named('d')))
	b.want("all go with their object", api.OK, 0, drop(a), same(named('x'), named('c')), made("x", named('c')))
	b.hold("one of each")
}

// P12.1, value: its other errors come ahead of ErrFull.
func TestFullValues(t *testing.T) {
	b := begin(t, 1<<24)
	var steps []api.Step
	for i := range 1024 {
		steps = append(steps, setTo(fmt.Sprint(i), ""))
	}
	b.want("values", api.OK, 0, steps...)
	b.want("no key", api.ErrArg, 0, setTo("", ""))
	b.want("too long", api.ErrLong, 0, setTo("x", strings.Repeat("v", 65537)))
	b.want("full", api.ErrFull, 0, setTo("x", ""))
	b.want("one goes and one comes", api.OK, 0, void("7"), setTo("x", ""))
	b.hold("1024 values")
}

// P12.1, 4.: the journal's limit, at the last byte and one beyond it, with the number of steps.
func TestFullJournal(t *testing.T) {
	steps := []api.Step{put(named('a'), fileOf("hi")), same(named('x'), named('a')), put(named('a'), fileOf("hi"))}
	entries := arkEntry(hi) + putEntry(objectWith(named('a'), nil), 0) + sameEntry(named('x'), named('a'))
	size := 52 + 22 + len(entries) + 26
	for short := range 4 {
		b := begin(t, size-short)
		want, n := api.ErrFull, 3
		if short == 0 {
			want, n = api.OK, 0
		}
		count := b.v.Count()
		b.want("one transaction", want, n, steps...)
		b.hold("one transaction")
		if short > 0 && b.v.Count() != count {
			t.Errorf("P12.1: %d operations", b.v.Count()-count)
		}
		b.want("one without an entry", map[bool]api.Errno{true: api.ErrFull, false: api.OK}[short == 0], 0)
		b.want("a wrong step ahead of a full journal", api.ErrNone, 1, setTo("k", "v"), void("x"))
		b.want("a lack ahead of a full journal", api.ErrNone, 0, put(named('b'), fileOf("hi"), named('c')))
		b.hold("full")
	}
}

// P12.1, 4.: numbers that are used up, ahead of a full journal.
func TestEndOfNumbers(t *testing.T) {
	last := uint64(1 << 62)
	v := history{gen: 1, first: last, base: []string{valueEntry("k", "v")}}.device()
	s := mustOpen(t, v, 1<<20)
	if s.Last() != 1<<62-1 {
		t.Errorf("P12.4: Last %d", s.Last())
	}
	if e, n := s.Apply([]api.Step{setTo("l", "w"), void("k")}); e != api.OK || n != 0 || s.Last() != 1<<62 {
		t.Errorf("P12.1: the last batch: %d, %d, Last %d", e, n, s.Last())
	}
	ahead, files := tell(s), filesOf(v)
	for _, limit := range []int{1 << 20, 64} {
		s := mustOpen(t, journal.NewDevice(v.Disk()), limit)
		if e, n := s.Apply([]api.Step{setTo("m", ""), void("l"), setTo("n", "")}); e != api.ErrEnd || n != 3 || tell(s) != ahead || s.Last() != 1<<62 {
			t.Errorf("P12.1: limit %d: %d, %d", limit, e, n)
		}
		if e, n := s.Apply(nil); e != api.ErrEnd || n != 0 {
			t.Errorf("P12.1: limit %d: no steps: %d, %d", limit, e, n)
		}
		if e, n := s.Apply([]api.Step{setTo("m", ""), void("x")}); e != api.ErrNone || n != 1 {
			t.Errorf("P12.1: limit %d: a wrong step ahead of the end: %d, %d", limit, e, n)
		}
		if e := s.Compact(); e != api.ErrEnd || tell(s) != ahead {
			t.Errorf("P12.2: limit %d: %d", limit, e)
		}
	}
	if filesOf(v) != files {
		t.Errorf("P12.1: the device has changed")
	}
	w := history{gen: last, first: 1, base: []string{valueEntry("k", "v")}}.device()
	s = mustOpen(t, w, 1<<20)
	if e := s.Compact(); e != api.ErrEnd || w.Count() != 0 {
		t.Errorf("P12.2: the last generation: %d", e)
	}
	if e, n := s.Apply([]api.Step{void("k")}); e != api.OK || n != 0 {
		t.Errorf("P12.1: the last generation: %d, %d", e, n)
	}
}

// P12.1: more than any journal has room for, from little that is handed in.
func TestFarTooMuch(t *testing.T) {
	great := sized(api.MaxArk, "g")
	var steps []api.Step
	for range 100 {
		steps = append(steps, put(named('a'), great), drop(named('a')))
	}
	v := journal.NewDevice(api.Disk{})
	s := mustOpen(t, v, 1<<26)
	if e, n := s.Apply(steps); e != api.ErrFull || n != 200 || v.Count() != 2 || s.Stat().Arks != 0 {
		t.Errorf("P12.1: %d, %d", e, n)
	}
	if e, n := s.Apply(append(steps, void("k"))); e != api.ErrNone || n != 200 {
		t.Errorf("P12.1: a wrong step behind too much: %d, %d", e, n)
	}
	if e, n := s.Apply(steps[:120]); e != api.OK || n != 0 {
		t.Errorf("P12.1: 60 arks: %d, %d", e, n)
	}
}
