package sweep

import (
	"fmt"
	"slices"
	"testing"

	"graft/api"
	"graft/journal"
	"graft/shelf"
)

// The shelf of the chapter's examples.
func exampleWorld(t *testing.T) *shelf.Shelf {
	t.Helper()
	s, _ := world(t, "ab b cd dbc")
	return s
}

func TestExample1(t *testing.T) {
	s := exampleWorld(t)
	if e := Keep(s, "r", named('a')); e != api.OK || lettersOf(Live(s, nil)) != "ab" || groupsOf(Plan(s, nil, 1)) != "cd" {
		t.Errorf("%d, %s, %s", e, lettersOf(Live(s, nil)), groupsOf(Plan(s, nil, 1)))
	}
	if l, n, e := Collect(s, nil, 1); lettersOf(l) != "cd" || n != 240 || e != api.OK {
		t.Errorf("%s, %d, %d", lettersOf(l), n, e)
	}
}

func TestExample2(t *testing.T) {
	s := exampleWorld(t)
	for want, groups := range map[int]string{1: "a", 120: "a", 121: "a cd", 1 << 62: "a cd b", 0: ""} {
		if got := groupsOf(Plan(s, nil, want)); got != groups {
			t.Errorf("Plan with want %d: %s, want %s", want, got, groups)
		}
	}
}

func TestExample3(t *testing.T) {
	s := exampleWorld(t)
	if got := lettersOf(Live(s, labelsOf("c"))); got != "bcd" {
		t.Errorf("%s", got)
	}
	if got := Live(s, labelsOf("z")); len(got) != 0 {
		t.Errorf("%s", lettersOf(got))
	}
}

func TestExample4(t *testing.T) {
	b := named('b')
	s, _ := world(t, "cd dbc", put(named('a'), "shared", b), put(b, "shared"))
	Keep(s, "r", named('c'))
	if got := groupsOf(Plan(s, nil, 1)); got != "a" {
		t.Errorf("%s", got)
	}
	if l, n, e := Collect(s, nil, 1); lettersOf(l) != "a" || n != 0 || e != api.OK || len(Plan(s, nil, 1)) != 0 {
		t.Errorf("%s, %d, %d", lettersOf(l), n, e)
	}
}

func TestExample5(t *testing.T) {
	s := exampleWorld(t)
	Keep(s, "r", named('a'))
	got := []api.Errno{Keep(s, ".r", named('a')), Keep(s, "r", named('x')), Release(s, "r"), Release(s, "r")}
	if !slices.Equal(got, []api.Errno{api.ErrRoot, api.ErrNone, api.OK, api.ErrRoot}) {
		t.Errorf("%v", got)
	}
}

// Examples 6 to 9.
func TestExample6(t *testing.T) {
	s := exampleWorld(t)
	numbers := func(want int) func(n int, e api.Errno) {
		return func(n int, e api.Errno) {
			t.Helper()
			if n != want || e != api.OK {
				t.Errorf("%d, %d, want %d", n, e, want)
			}
		}
	}
	numbers(1)(Advance(s, "p", named('a')))
	if data, _ := s.Value("profile:p"); string(data) != "\x01\x00\x00\x00\x01\x00\x00\x00\x01\x00\x00\x00\x22\x00\x00\x00"+baseOf(named('a')) {
		t.Errorf("%q", data)
	}
	numbers(2)(Advance(s, "p", named('b')))
	numbers(2)(Advance(s, "p", named('b')))
	if e := Switch(s, "p", 1); e != api.OK {
		t.Errorf("%d", e)
	}
	numbers(3)(Advance(s, "p", named('b')))
	if got := Profiles(s); len(got) != 1 || !sameProfile(got[0], "p", profile{3, 3, []api.Gen{gen(1, 'a'), gen(2, 'b'), gen(3, 'b')}}) {
		t.Errorf("%v", got)
	}
	numbers(2)(Trim(s, "p", 1))
	if got := Profiles(s); len(got) != 1 || !sameProfile(got[0], "p", profile{3, 3, []api.Gen{gen(3, 'b')}}) {
		t.Errorf("%v", got)
	}
	numbers(0)(Trim(s, "p", 0))
	if e := Switch(s, "p", 0); e != api.OK {
		t.Errorf("%d", e)
	}
	numbers(1)(Trim(s, "p", 0))
	if got := Profiles(s); len(got) != 1 || !sameProfile(got[0], "p", profile{0, 3, nil}) {
		t.Errorf("%v", got)
	}
	numbers(4)(Advance(s, "p", named('a')))
	_, e := Trim(s, "q", -1)
	if got := []api.Errno{Switch(s, "p", 9), Switch(s, "q", 0), e}; !slices.Equal(got, []api.Errno{api.ErrProfile, api.ErrProfile, api.ErrArg}) {
		t.Errorf("%v", got)
	}
}

func TestExample10(t *testing.T) {
	s := exampleWorld(t)
	mustApply(t, s, setTo("profile:p", "xyz"))
	n, e := Advance(s, "p", named('a'))
	if len(Profiles(s)) != 0 || n != 0 || e != api.ErrProfile || Keep(s, "p", named('a')) != api.OK {
		t.Errorf("%v, %d, %d", Profiles(s), n, e)
	}
}

// A nil shelf: zero values, whatever is handed in.
func TestNilShelf(t *testing.T) {
	for _, l := range []api.Label{named('a'), {}} {
		for _, name := range []string{"r", "", ".r"} {
			for _, n := range []int{-1, 0, 1, all} {
				extra := []api.Label{l, l}
				a, ea := Advance(nil, name, l)
				b, eb := Trim(nil, name, n)
				c, d, ec := Collect(nil, extra, n)
				got := fmt.Sprint(Keep(nil, name, l), Release(nil, name), Switch(nil, name, n), a, ea, b, eb, d, ec)
				if got != "0 0 0 0 0 0 0 0 0" || len(Roots(nil))+len(Profiles(nil))+len(Live(nil, extra))+len(Plan(nil, extra, n))+len(c) != 0 {
					t.Errorf("a nil shelf: %s", got)
				}
			}
		}
	}
}

// A shelf that was not opened has nothing on it, and each call ends.
func TestZeroShelf(t *testing.T) {
	s := &shelf.Shelf{}
	Keep(s, "r", named('a'))
	Release(s, "r")
	Advance(s, "p", named('a'))
	Switch(s, "p", 0)
	Trim(s, "p", 0)
	l, n, e := Collect(s, labelsOf("a"), all)
	if len(Roots(s))+len(Profiles(s))+len(Live(s, labelsOf("a")))+len(Plan(s, nil, all))+len(l)+n != 0 || e != api.OK {
		t.Errorf("%v, %d, %d", l, n, e)
	}
}

// Two shelves that were made alike answer alike, and have nothing in common with a third.
func TestAlike(t *testing.T) {
	s1, v1 := richWorld(t)
	s2, v2 := richWorld(t)
	third, _ := world(t, "ab ba")
	for range 3 {
		Keep(third, "r", named('a'))
		Advance(third, "p", named('b'))
		one, two := told(Collect(s1, nil, 1)), told(Collect(s2, nil, 1))
		if one != two || filesOf(v1) != filesOf(v2) {
			t.Errorf("%s, %s", one, two)
		}
		Collect(third, nil, all)
	}
	if lettersOf(third.List()) != "ab" {
		t.Errorf("%s", lettersOf(third.List()))
	}
}

// The same calls on a shelf that is opened anew answer the same: all is kept in the journal.
func TestKeptOver(t *testing.T) {
	s, v := richWorld(t)
	x, _ := again(t, v, 1<<22)
	if keepsAll(s, nil) != keepsAll(x, nil) || fmt.Sprint(Plan(s, nil, all)) != fmt.Sprint(Plan(x, nil, all)) {
		t.Errorf("opened anew: %s", firstUnlike(keepsAll(x, nil), keepsAll(s, nil)))
	}
	s.Compact()
	y := mustOpen(t, journal.NewDevice(v.Disk()), 1<<22)
	if keepsAll(s, nil) != keepsAll(y, nil) || keepsAll(x, nil) != keepsAll(y, nil) {
		t.Errorf("made short: %s", firstUnlike(keepsAll(y, nil), keepsAll(s, nil)))
	}
}
