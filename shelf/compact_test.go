package shelf

import (
	"fmt"
	"math/rand/v2"
	"slices"
	"testing"

	"graft/api"
	"graft/journal"
	"graft/label"
)

// P12.2: the base, in its order, with the arks' new numbers; everything else is as it was.
func TestCompact(t *testing.T) {
	f, g := fileOf("hi"), fileOf("ho")
	b := begin(t, 1<<16)
	b.want("ready", api.OK, 0, put(named('z'), g), put(named('y'), f, named('z')), put(named('b'), g, named('b'), named('z')), put(named('a'), f))
	b.want("more", api.OK, 0, setTo("l", "w"), setTo("k", "v"), made("n", named('z')), made("m", named('a')), same(named('q'), named('a')), same(named('p'), named('z')), setTo("k", "x"))
	ahead, last := tell(b.s), b.s.Last()
	if e := b.compact(); e != api.OK {
		t.Fatalf("P12.2: %d", e)
	}
	b.hold("compacted")
	if tell(b.s) != ahead || b.s.Last() != last {
		t.Errorf("P12.2: %s", firstUnlike(tell(b.s), ahead))
	}
	want := arkEntry(hi) + putEntry(objectWith(named('a'), nil), 0) +
		arkEntry(ho) + putEntry(objectWith(named('b'), nil, named('b'), named('z')), 1) +
		putEntry(objectWith(named('y'), nil, named('z')), 0) + putEntry(objectWith(named('z'), nil), 1) +
		sameEntry(named('p'), named('z')) + sameEntry(named('q'), named('a')) + madeEntry("m", named('a')) + madeEntry("n", named('z')) + valueEntry("k", "x") + valueEntry("l", "w")
	if h := historyOf(t, b.v); !slices.Equal(h.base, []string{want}) || len(h.batches) != 0 {
		t.Errorf("P12.2: %q, want %q", h.base, want)
	}
	b.want("an ark that is there has its new number", api.OK, 0, put(named('c'), g))
	if got := journalPayloads(b); !slices.Equal(got, []string{putEntry(objectWith(named('c'), nil), 1)}) {
		t.Errorf("P12.2: %q", got)
	}
	b.want("a new ark has the next number", api.OK, 0, put(named('d'), fileOf("new")))
	if got := journalPayloads(b); !slices.Equal(got, []string{arkEntry(string(fileOf("new"))) + putEntry(objectWith(named('d'), nil), 2)}) {
		t.Errorf("P12.2: %q", got)
	}
	b.hold("behind it")
	b.again(1 << 16)
	b.hold("opened again")
}

// P12.2: twice, and of a shelf without anything, and when all has gone.
func TestCompactTwice(t *testing.T) {
	b := begin(t, 1<<16)
	for range 3 {
		if e := b.compact(); e != api.OK {
			t.Errorf("P12.2: %d", e)
		}
		b.hold("without anything")
	}
	b.want("ready", api.OK, 0, put(named('a'), fileOf("hi")), put(named('b'), fileOf("ho")), setTo("k", "v"))
	for range 3 {
		if e := b.compact(); e != api.OK {
			t.Errorf("P12.2: %d", e)
		}
		b.hold("with two objects")
	}
	b.want("all go", api.OK, 0, drop(named('a')), drop(named('b')), void("k"))
	b.compact()
	b.want("numbers begin anew", api.OK, 0, put(named('a'), fileOf("hi")))
	if got := journalPayloads(b); !slices.Equal(got, []string{arkEntry(hi) + putEntry(objectWith(named('a'), nil), 0)}) {
		t.Errorf("P12.2: %q", got)
	}
	b.again(1 << 16)
	b.hold("opened again")
}

// P12.2: when it is refused nothing is changed; at the last byte it is not.
func TestCompactRefused(t *testing.T) {
	b := begin(t, 1<<16)
	b.want("ready", api.OK, 0, put(named('b'), fileOf("ho")), put(named('c'), fileOf("hi")), drop(named('b')), put(named('a'), fileOf("ho")))
	entries, _ := b.p.compacted()
	size := 30 + 22 + len(packed(entries)[0]) + 22
	for short := range 3 {
		b.again(size - short)
		count, ahead, stat := b.v.Count(), tell(b.s), b.s.Stat()
		e := b.compact()
		if want := map[bool]api.Errno{true: api.OK, false: api.ErrFull}[short == 0]; e != want {
			t.Errorf("P12.2: %d bytes short: %d", short, e)
		}
		b.hold("a full journal")
		if short > 0 && (b.v.Count() != count || tell(b.s) != ahead || b.s.Stat() != stat) {
			t.Errorf("P12.2: %d bytes short: changed", short)
		}
	}
}

// P12.2: numbers stay as they were where it is refused.
func TestRefusedNumbers(t *testing.T) {
	h := history{gen: 1 << 62, first: 1, batches: [][]string{{arkEntry(ho) + putEntry(objectNamed('c', nil), 0) + arkEntry(hi) + putEntry(objectNamed('b', nil), 1)}}}
	v := h.device()
	s := mustOpen(t, v, 1<<20)
	if e := s.Compact(); e != api.ErrEnd {
		t.Errorf("P12.2: %d", e)
	}
	s.Apply([]api.Step{put(named('d'), fileOf("hi")), put(named('e'), fileOf("x"))})
	got := historyOf(t, v).batches[1]
	if want := putEntry(objectNamed('d', nil), 1) + arkEntry(string(fileOf("x"))) + putEntry(objectNamed('e', nil), 2); !slices.Equal(got, []string{want}) {
		t.Errorf("P12.2: %q, want %q", got, want)
	}
}

// P12.10: one state, one base: states that came about in unlike ways.
func TestOneBase(t *testing.T) {
	r := sourceOf(3)
	for range 60 {
		one := begin(t, 1<<20)
		anyScript(r, one, 25)
		v := journal.NewDevice(api.Disk{})
		two := mustOpen(t, v, 1<<20)
		for range r.IntN(5) {
			two.Apply([]api.Step{put(named('y'), fileOf("other")), setTo("other", ""), drop(named('y')), void("other")})
		}
		steps := rebuild(r, one.p)
		first := r.IntN(len(steps) + 1)
		if e, _ := two.Apply(steps[:first]); e != api.OK {
			first = 0 // a part of the objects was not closed: all at once
		}
		if e, n := two.Apply(steps[first:]); e != api.OK {
			t.Fatalf("P12.1: %d, %d", e, n)
		}
		if tell(one.s) != tell(two) {
			t.Fatalf("P12.10: the states differ: %s", firstUnlike(tell(two), tell(one.s)))
		}
		a, b := one.s.Compact(), two.Compact()
		if x, y := historyOf(t, one.v).base, historyOf(t, v).base; a != api.OK || b != api.OK || !slices.Equal(x, y) {
			t.Fatalf("P12.10: %d, %q and %d, %q", a, x, b, y)
		}
	}
}

// rebuild is steps that make a state, in any order that Apply takes as one transaction.
func rebuild(r *rand.Rand, p plainState) []api.Step {
	var objects, rest []api.Step
	for _, o := range p.objects {
		objects = append(objects, putOf(o))
	}
	for _, x := range p.sames {
		rest = append(rest, same(x.Old, x.New))
	}
	for _, x := range p.mades {
		rest = append(rest, made(x.Key, x.Label))
	}
	for _, x := range p.values {
		rest = append(rest, setTo(x.Key, x.Value))
	}
	r.Shuffle(len(objects), func(i, j int) { objects[i], objects[j] = objects[j], objects[i] })
	r.Shuffle(len(rest), func(i, j int) { rest[i], rest[j] = rest[j], rest[i] })
	return append(objects, rest...)
}

// P12.9: every state is as 12.1 says, behind any calls.
func TestEveryState(t *testing.T) {
	r := sourceOf(4)
	for range 200 {
		b := begin(t, 1<<20)
		for range 10 {
			anyScript(r, b, 3)
			holdState(t, b.s)
		}
	}
}

// holdState holds a shelf against 12.1.
func holdState(t *testing.T, s *Shelf) {
	t.Helper()
	all := s.List()
	arks := map[string]int{}
	hashes := map[api.Hash]int{}
	for i, l := range all {
		o, e := s.Get(l)
		if e != api.OK || !plainRight(o) || o.Label != l || i > 0 && label.Compare(all[i-1], l) >= 0 {
			t.Fatalf("12.1: %s, %d", showObject(o), e)
		}
		for _, ref := range o.Refs {
			if !s.Has(ref) {
				t.Fatalf("12.1: not closed: %s", showObject(o))
			}
		}
		arks[string(o.Ark)] = len(o.Ark)
		hashes[l.Hash]++
	}
	for _, x := range s.Sames() {
		if !printable(x.Old) || !s.Has(x.New) {
			t.Fatalf("12.1: same %s %s", showLabel(x.Old), showLabel(x.New))
		}
	}
	for _, x := range s.Mades() {
		if !plainKey(x.Key) || !s.Has(x.Label) {
			t.Fatalf("12.1: made %q %s", x.Key, showLabel(x.Label))
		}
	}
	for _, key := range s.Keys() {
		if data, e := s.Value(key); e != api.OK || !plainKey(key) || len(data) > 65536 {
			t.Fatalf("12.1: value %q", key)
		}
	}
	size := 0
	for _, n := range arks {
		size += n
	}
	c := s.Stat()
	if got, want := fmt.Sprint(c.Objects, c.Arks, c.Bytes), fmt.Sprint(len(hashes), len(arks), size); got != want {
		t.Fatalf("12.1: %s, want %s", got, want)
	}
}
