package shelf

import (
	"slices"
	"strings"
	"testing"

	"graft/api"
	"graft/journal"
)

func isApplied(t *testing.T, what string, s *Shelf, e api.Errno, n int, steps ...api.Step) {
	t.Helper()
	if got, at := s.Apply(steps); got != e || at != n {
		t.Errorf("%s: %d, %d, want %d, %d", what, got, at, e, n)
	}
}

// Examples 1 to 4, 6, 9.
func TestExamplesObjects(t *testing.T) {
	f := fileOf("hi")
	a, b := named('a'), named('b')
	v := journal.NewDevice(api.Disk{})
	s := mustOpen(t, v, 4096)
	if s.Stat() != (api.Stat{Journal: 52, Room: 4044}) {
		t.Errorf("example 1: %+v", s.Stat())
	}
	isApplied(t, "example 2", s, api.OK, 0, put(a, f))
	if h := historyOf(t, v); len(h.batches) != 1 || len(h.batches[0]) != 1 || len(h.batches[0][0]) != 1+4+120+1+4+34+4+4+1+4 || s.Stat().Arks != 1 || s.Stat().Bytes != 120 {
		t.Errorf("example 2: %q", h.batches)
	}
	isApplied(t, "example 3", s, api.OK, 0, put(a, f))
	if h := historyOf(t, v); len(h.batches) != 2 || len(h.batches[1]) != 0 {
		t.Errorf("example 3: %q", h.batches)
	}
	isApplied(t, "example 3", s, api.ErrThere, 0, put(a, fileOf("ho")))
	isApplied(t, "example 4", s, api.OK, 0, put(b, f, a, b))
	if h := historyOf(t, v); !slices.Equal(h.batches[2], []string{putEntry(objectWith(b, nil, a, b), 0)}) || s.Stat().Arks != 1 {
		t.Errorf("example 4: %q", h.batches)
	}
	if got, e, at := s.Closure([]api.Label{b}); !slices.Equal(got, []api.Label{a, b}) || e != api.OK || at != 0 {
		t.Errorf("example 9: %s, %d, %d", showLabels(got), e, at)
	}
	isApplied(t, "example 4", s, api.ErrNeeded, 0, drop(a))
	isApplied(t, "example 6", s, api.ErrClash, 0, put(api.Label{Hash: a.Hash, Name: "another"}, f))
	for _, order := range [][]api.Step{{drop(b), drop(a)}, {drop(a), drop(b)}} {
		again := mustOpen(t, journal.NewDevice(v.Disk()), 4096)
		isApplied(t, "example 4", again, api.OK, 0, order...)
		if len(again.List()) != 0 {
			t.Errorf("example 4: %s", showLabels(again.List()))
		}
	}
}

// Examples 5, 7, 8, 10.
func TestExamplesRest(t *testing.T) {
	f := fileOf("hi")
	a, b, x, z := named('a'), named('b'), named('x'), named('z')
	s := mustOpen(t, journal.NewDevice(api.Disk{}), 1<<20)
	isApplied(t, "example 5", s, api.ErrNone, 0, put(a, f, b))
	isApplied(t, "example 5", s, api.ErrNone, 0, put(b, f, a))
	isApplied(t, "example 5", s, api.OK, 0, put(a, f, b), put(b, f, a))
	s = mustOpen(t, journal.NewDevice(api.Disk{}), 1<<20)
	isApplied(t, "example 7", s, api.OK, 0, put(a, f), same(x, a))
	isApplied(t, "example 7", s, api.OK, 0, drop(a))
	if l, e := s.Same(x); l != (api.Label{}) || e != api.ErrNone {
		t.Errorf("example 7: %s, %d", showLabel(l), e)
	}
	isApplied(t, "example 8", s, api.ErrLong, 0, setTo("k", strings.Repeat("v", 65537)))
	isApplied(t, "example 8", s, api.ErrNone, 0, void("k"))
	isApplied(t, "example 10", s, api.OK, 0, put(a, f, z), put(z, f))
	isApplied(t, "example 10", s, api.ErrNone, 0, put(a, f, z), drop(z))
}

// Example 11.
func TestExamplePowerFailure(t *testing.T) {
	v := journal.NewDevice(api.Disk{})
	s := mustOpen(t, v, 4096)
	isApplied(t, "example 11", s, api.OK, 0, put(named('a'), fileOf("hi")))
	all, _ := v.At(3, [2]int{1 << 20, 0})
	for keep := range len(all.Files[0]) - 52 {
		d, _ := v.At(3, [2]int{keep, 0})
		if u := mustOpen(t, journal.NewDevice(d), 4096); len(u.List()) != 0 || u.Stat() != (api.Stat{Journal: 52, Room: 4044}) {
			t.Errorf("example 11: %d bytes kept: %+v", keep, u.Stat())
		}
	}
	if u := mustOpen(t, journal.NewDevice(all), 4096); !u.Has(named('a')) {
		t.Errorf("example 11: the whole is kept")
	}
}
