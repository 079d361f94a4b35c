package sweep

import (
	"fmt"
	"slices"
	"testing"

	"graft/api"
	"graft/shelf"
)

// roomy is a list with room behind it, in which something stands.
func roomy[T any](list []T, stands T) []T {
	room := slices.Repeat([]T{stands}, len(list)+5)
	copy(room, list)
	return room[:len(list)]
}

// overwrite writes over a list and the room behind it.
func overwrite[T any](list []T, by T) {
	list = list[:cap(list)]
	for i := range list {
		list[i] = by
	}
}

// What is handed in stays as it was, its spare room too, and is not kept.
func TestHandedIn(t *testing.T) {
	for what, ask := range map[string]func(s *shelf.Shelf, extra []api.Label) string{
		"Live":    func(s *shelf.Shelf, extra []api.Label) string { return fmt.Sprint(Live(s, extra)) },
		"Plan":    func(s *shelf.Shelf, extra []api.Label) string { return fmt.Sprint(Plan(s, extra, all)) },
		"Collect": func(s *shelf.Shelf, extra []api.Label) string { return told(Collect(s, extra, all)) },
	} {
		for _, letters := range []string{"", "c", "zgzc", "ccc"} {
			s, v := richWorld(t)
			given := roomy(labelsOf(letters), named('!'))
			before := slices.Clone(given[:cap(given)])
			ask(s, given)
			if !slices.Equal(given[:cap(given)], before) {
				t.Errorf("%s: what was handed in has changed: %s", what, lettersOf(given))
			}
			was := markOf(s, v)
			overwrite(given, named('?'))
			unchanged(t, what+": what was handed in is kept", s, v, was)
		}
	}
}

// An answer has no memory in common with what was handed in: not where each label of the one is in the other.
func TestHandedThrough(t *testing.T) {
	s, _ := world(t, "a b c")
	given := roomy(labelsOf("abc"), named('!'))
	live := Live(s, given)
	overwrite(given, named('?'))
	if lettersOf(live) != "abc" {
		t.Errorf("P13.8: %s", lettersOf(live))
	}
	overwrite(live, named('!'))
	if given[0] != named('?') {
		t.Errorf("P13.8: %s", lettersOf(given))
	}
}

// What is handed out is new memory each time: what is written into it, and behind it, shows nowhere.
func TestHandedOut(t *testing.T) {
	s, v := richWorld(t)
	Advance(s, "p", named('m'))
	Advance(s, "q", named('a'))
	was := markOf(s, v)
	looks := func() string {
		return fmt.Sprint(Roots(s), Profiles(s), Live(s, nil), Plan(s, nil, all))
	}
	before := looks()
	for range 2 {
		overwrite(Roots(s), api.Root{Name: "?"})
		for _, p := range Profiles(s) {
			overwrite(p.Gens, gen(77, '?'))
		}
		overwrite(Profiles(s), api.Profile{Name: "?"})
		overwrite(Live(s, nil), named('?'))
		for _, g := range Plan(s, nil, all) {
			overwrite(g, named('?'))
		}
		overwrite(Plan(s, nil, all), labelsOf("?"))
		if got := looks(); got != before {
			t.Fatalf("what was written into answers shows: %s, want %s", got, before)
		}
	}
	unchanged(t, "what was written into answers", s, v, was)
	labels, _, _ := Collect(s, nil, all)
	was = markOf(s, v)
	overwrite(labels, named('?'))
	unchanged(t, "what was written into Collect's answer", s, v, was)
}

// No two lists of one answer have memory in common, their spare room too.
func TestListsApart(t *testing.T) {
	s, _ := world(t, "ab ba c de ed f gh h")
	groups := Plan(s, nil, all)
	want := clone2(groups)
	for i := range groups {
		overwrite(groups[i], named('?'))
		for k := range groups {
			if k > i && !slices.Equal(groups[k], want[k]) {
				t.Fatalf("P13.9: groups %d and %d share memory", i, k)
			}
		}
	}
	for i := range 5 {
		for k := range 3 + i {
			Advance(s, fmt.Sprint("p", i), named("ab"[k%2]))
		}
	}
	profiles := Profiles(s)
	lists := Profiles(s)
	for i := range profiles {
		overwrite(profiles[i].Gens, gen(77, '?'))
		for k := range profiles {
			if k > i && !slices.Equal(profiles[k].Gens, lists[k].Gens) {
				t.Fatalf("P13.7: profiles %d and %d share memory", i, k)
			}
		}
	}
}

// Lists that are nil and lists that are empty are the same.
func TestNilAndEmpty(t *testing.T) {
	s1, v1 := richWorld(t)
	s2, v2 := richWorld(t)
	if fmt.Sprint(Live(s1, nil), Plan(s1, nil, all)) != fmt.Sprint(Live(s2, []api.Label{}), Plan(s2, []api.Label{}, all)) {
		t.Errorf("P13.8: nil and empty differ")
	}
	if told(Collect(s1, nil, all)) != told(Collect(s2, []api.Label{}, all)) || filesOf(v1) != filesOf(v2) {
		t.Errorf("P13.10: nil and empty differ")
	}
}
