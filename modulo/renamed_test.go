package modulo

import (
	"fmt"
	"math"
	"strings"
	"testing"

	"graft/api"
	"graft/digest"
)

func refuseRenamed(t *testing.T, what string, members []api.Member, n api.Naming) {
	t.Helper()
	holdRenamed(t, members, n)
	if arks, e := Renamed(members, n); len(arks) != 0 || e != api.ErrArg {
		t.Errorf("P7.7: %s: %d, %d archives", what, e, len(arks))
	}
}

// P7.7: the digits of the members' labels, at their mentions.
func TestRenamed(t *testing.T) {
	members := ring(t, strings.Repeat("1", 32), strings.Repeat("2", 32))
	n, _, _ := Group(members)
	arks := holdRenamed(t, members, n)
	want := [][]byte{fileArk(t, "AAAAAAAAd8swr9gf8mjvzximwsa14781q0bbkk2s"), fileArk(t, "see bamy1lixri3c3sj7c47pnk8np6vql19r/x")}
	if len(arks) != 2 || string(arks[0]) != string(want[0]) || string(arks[1]) != string(want[1]) {
		t.Errorf("P7.7: %q", arks)
	}
}

// P7.7: as many labels as members, neither more nor fewer.
func TestRenamedLabels(t *testing.T) {
	members := ring(t, strings.Repeat("1", 32), strings.Repeat("2", 32))
	for k := range 5 {
		n := api.Naming{Labels: make([]api.Label, k)}
		if k != len(members) {
			refuseRenamed(t, fmt.Sprintf("%d labels", k), members, n)
		} else if holdRenamed(t, members, n) == nil {
			t.Error("P7.7: as many as there must be are refused")
		}
	}
	refuseRenamed(t, "a label for no member", nil, api.Naming{Labels: make([]api.Label, 1)})
	for _, none := range [][]api.Member{nil, {}} {
		if arks, e := Renamed(none, api.Naming{Labels: []api.Label{}}); len(arks) != 0 || e != api.OK {
			t.Errorf("P7.7: no members: %d, %d archives", e, len(arks))
		}
	}
}

// P7.7: hits that P7.6 refuses, of each member.
func TestRenamedHits(t *testing.T) {
	data := []byte(strings.Repeat("-", 112))
	n := api.Naming{Labels: make([]api.Label, 3)}
	for _, c := range []struct {
		hits []api.Hit
		fit  bool
	}{
		{nil, true}, {[]api.Hit{}, true}, {[]api.Hit{{At: 0}}, true}, {[]api.Hit{{At: 80, Which: 2}}, true}, {[]api.Hit{{At: 0}, {At: 32}, {At: 64}}, true}, {[]api.Hit{{At: 8}, {At: 40}}, true},
		{[]api.Hit{{At: -1}}, false}, {[]api.Hit{{At: 81}}, false}, {[]api.Hit{{At: 112}}, false}, {[]api.Hit{{At: math.MaxInt}}, false}, {[]api.Hit{{At: math.MinInt}}, false},
		{[]api.Hit{{Which: 3}}, false}, {[]api.Hit{{Which: -1}}, false}, {[]api.Hit{{Which: math.MaxInt}}, false}, {[]api.Hit{{Which: math.MinInt}}, false},
		{[]api.Hit{{At: 8}, {At: 39}}, false}, {[]api.Hit{{At: 8}, {At: 8}}, false}, {[]api.Hit{{At: 40}, {At: 8}}, false}, {[]api.Hit{{At: 0}, {At: 32}, {At: 63}}, false},
		{[]api.Hit{{At: 0}, {At: 32, Which: 3}}, false}, {[]api.Hit{{At: 0}, {At: 81}}, false},
	} {
		for which := range 3 {
			members := []api.Member{{Ark: data}, {Ark: data}, {Ark: data}}
			members[which].Hits = c.hits
			if !c.fit {
				refuseRenamed(t, fmt.Sprint(c.hits), members, n)
			} else if arks := holdRenamed(t, members, n); len(arks) != 3 {
				t.Errorf("P7.7: %v: %d archives", c.hits, len(arks))
			}
		}
	}
	for _, size := range []int{0, 1, 31} { // no mention fits at all
		for _, at := range []int{size - 32, -1, 0, 1} {
			refuseRenamed(t, "a short one", []api.Member{{Ark: data[:size], Hits: []api.Hit{{At: at}}}}, api.Naming{Labels: make([]api.Label, 1)})
		}
	}
	if arks := holdRenamed(t, []api.Member{{Ark: data[:32], Hits: []api.Hit{{}}}}, api.Naming{Labels: make([]api.Label, 1)}); string(arks[0]) != strings.Repeat("0", 32) {
		t.Errorf("P7.7: %q", arks)
	}
}

// P7.7: nothing else is asked: neither names, archives, references, nor how many there are, nor whose labels they are.
func TestRenamedAsksNothingElse(t *testing.T) {
	n := api.Naming{Labels: []api.Label{{Hash: someHash(1), Name: "/"}, {Hash: someHash(1)}, {}}}
	members := []api.Member{
		{Name: ".", Ark: []byte(strings.Repeat("x", 100)), Hits: []api.Hit{{At: 3, Which: 1}, {At: 36, Which: 2}, {At: 68, Which: 0}}},
		{Name: ".", Refs: make([]api.Label, 300)},
		{Ark: []byte("short")},
	}
	h := someHash(1)
	want := "xxx" + digest.Base32(h[:]) + "x" + strings.Repeat("0", 32) + digest.Base32(h[:])
	if arks := holdRenamed(t, members, n); len(arks) != 3 || string(arks[0]) != want || len(arks[1]) != 0 || string(arks[2]) != "short" {
		t.Errorf("P7.7: %q", arks)
	}
	for _, count := range []int{65, 1000} {
		members := make([]api.Member, count)
		n := api.Naming{Labels: make([]api.Label, count)}
		for i := range members {
			members[i] = api.Member{Ark: []byte(strings.Repeat("x", 33)), Hits: []api.Hit{{At: 1, Which: count - 1 - i}}}
			n.Labels[i].Hash = someHash(i)
		}
		if arks := holdRenamed(t, members, n); len(arks) != count {
			t.Errorf("P7.7: %d archives of %d", len(arks), count)
		}
	}
}
