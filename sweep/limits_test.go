package sweep

import (
	"fmt"
	"slices"
	"strings"
	"testing"

	"graft/api"
	"graft/journal"
	"graft/label"
	"graft/shelf"
)

// greatShelf is a shelf with as many objects as there may be, each of which refers to those that refs says of its place.
func greatShelf(t *testing.T, refs func(place int) []int) (*shelf.Shelf, []api.Label) {
	t.Helper()
	var labels []api.Label
	for i := range api.MaxObjects {
		labels = append(labels, numbered(i))
	}
	labels = label.Sort(labels)
	var steps []api.Step
	for i, l := range labels {
		var to []api.Label
		for _, k := range refs(i) {
			to = append(to, labels[k])
		}
		steps = append(steps, put(l, "shared", to...))
	}
	s := mustOpen(t, journal.NewDevice(api.Disk{}), api.MaxRoom)
	mustApply(t, s, steps...)
	return s, labels
}

// A whole shelf with as many references as there may be: a graph with all edges that it may have.
func TestGreatShelf(t *testing.T) {
	s, labels := greatShelf(t, func(place int) []int { // each refers to the 256 ahead of it, the first ones to less
		var out []int
		for k := max(0, place-api.MaxRefs); k < place; k++ {
			out = append(out, k)
		}
		return out
	})
	groups := Plan(s, nil, all)
	if len(groups) != len(labels) {
		t.Fatalf("P13.9: %d groups", len(groups))
	}
	for i, g := range groups {
		if len(g) != 1 || g[0] != labels[len(labels)-1-i] {
			t.Fatalf("P13.9: group %d: %s", i, showLabels(g))
		}
	}
	if got := Live(s, labels[len(labels)-1:]); !slices.Equal(got, labels) {
		t.Errorf("P13.8: %d labels", len(got))
	}
	if got := Plan(s, labels[99:100], all); len(got) != len(labels)-100 {
		t.Errorf("P13.9: %d groups", len(got))
	}
}

// A ring of all objects, with as many references as there may be: one group, and one transaction.
func TestGreatRing(t *testing.T) {
	s, labels := greatShelf(t, func(place int) []int {
		var out []int
		for k := range api.MaxRefs {
			out = append(out, (place+k)%api.MaxObjects)
		}
		return out
	})
	last := s.Last()
	if got := Plan(s, nil, 1); len(got) != 1 || !slices.Equal(got[0], labels) {
		t.Fatalf("P13.9: %d groups", len(got))
	}
	gone, free, e := Collect(s, nil, 1)
	if !slices.Equal(gone, labels) || free != 120 || e != api.OK || s.Last() != last+1 || len(s.List()) != 0 {
		t.Errorf("P13.10: %d labels, %d, %d, %d transactions", len(gone), free, e, s.Last()-last)
	}
}

// A chain: each object is a group, and they go one behind the other, by a transaction each.
func TestLongChain(t *testing.T) {
	const n = 600
	var steps []api.Step
	var want []api.Label
	for i := range n {
		var refs []api.Label
		if i+1 < n {
			refs = []api.Label{numbered(i + 1)}
		}
		want = append(want, numbered(i))
		steps = append(steps, put(numbered(i), fmt.Sprint(i), refs...))
	}
	s := mustOpen(t, journal.NewDevice(api.Disk{}), 1<<22)
	mustApply(t, s, steps...)
	if got := Live(s, []api.Label{numbered(n / 2)}); len(got) != n/2 {
		t.Errorf("P13.8: %d labels", len(got))
	}
	gone, _, e := Collect(s, []api.Label{numbered(n / 2)}, all)
	if !slices.Equal(gone, want[:n/2]) || e != api.OK || s.Last() != 1+n/2 {
		t.Errorf("P13.10: %d labels, %d, %d transactions", len(gone), e, s.Last()-1)
	}
}

// Great archives: what they free, and that sharing is by their bytes.
func TestGreatArchives(t *testing.T) {
	body := strings.Repeat("x", api.MaxArk-112-1)
	s := mustOpen(t, journal.NewDevice(api.Disk{}), api.MaxRoom)
	mustApply(t, s, put(named('a'), body+"a"), put(named('b'), body+"b"), put(named('c'), body+"a"), put(named('d'), body+"b", named('e')), put(named('e'), body+"a"))
	for want, groups := range map[int]string{1: "a b c d", api.MaxArk: "a b c d", api.MaxArk + 1: "a b c d e", 2 * api.MaxArk: "a b c d e"} {
		if got := groupsOf(Plan(s, nil, want)); got != groups {
			t.Errorf("P13.9: want %d: %s, want %s", want, got, groups)
		}
	}
	if got := groupsOf(Plan(s, labelsOf("e"), 1)); got != "a b c d" {
		t.Errorf("P13.9: %s", got)
	}
	if l, n, e := Collect(s, labelsOf("e"), all); lettersOf(l) != "abcd" || n != api.MaxArk || e != api.OK {
		t.Errorf("P13.10: %s, %d, %d", lettersOf(l), n, e)
	}
}

// Roots and profiles of all values that there may be.
func TestManyKeepers(t *testing.T) {
	s := mustOpen(t, journal.NewDevice(api.Disk{}), api.MaxRoom)
	var steps []api.Step
	for i := range api.MaxValues {
		steps = append(steps, put(numbered(i), fmt.Sprint(i)))
	}
	mustApply(t, s, append(steps, put(named('x'), "x"))...)
	for i := range api.MaxValues {
		if i%2 == 0 {
			if e := Keep(s, fmt.Sprint("r", i), numbered(i)); e != api.OK {
				t.Fatalf("P13.1: %d", e)
			}
		} else if n, e := Advance(s, fmt.Sprint("p", i), numbered(i)); n != 1 || e != api.OK {
			t.Fatalf("P13.4: %d, %d", n, e)
		}
	}
	if len(Roots(s)) != api.MaxValues/2 || len(Profiles(s)) != api.MaxValues/2 || len(Live(s, nil)) != api.MaxValues {
		t.Errorf("P13.8: %d, %d, %d", len(Roots(s)), len(Profiles(s)), len(Live(s, nil)))
	}
	if l, n, e := Collect(s, nil, all); lettersOf(l) != "x" || n != 120 || e != api.OK {
		t.Errorf("P13.10: %d labels, %d, %d", len(l), n, e)
	}
}
