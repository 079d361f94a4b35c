package graph

import (
	"slices"
	"strings"
	"testing"

	"graft/api"
)

// spot is a vertex that is no number.
type spot struct{ x, y int }

// knight is where a knight goes from a place of a board of 8 by 8, in order.
func knight(s spot) []spot {
	var out []spot
	for _, d := range []spot{{-2, -1}, {-2, 1}, {-1, -2}, {-1, 2}, {1, -2}, {1, 2}, {2, -1}, {2, 1}} {
		if to := (spot{s.x + d.x, s.y + d.y}); to.x >= 0 && to.x < 8 && to.y >= 0 && to.y < 8 {
			out = append(out, to)
		}
	}
	return out
}

// The searches take any vertex that can be compared.
func TestSearchesOfStructs(t *testing.T) {
	var sizes []int
	for layer := range layers([]spot{{0, 0}, {0, 0}}, knight) {
		sizes = append(sizes, len(layer))
	}
	if want := []int{1, 2, 9, 20, 21, 10, 1}; !slices.Equal(sizes, want) {
		t.Errorf("layers: %v, want %v", sizes, want)
	}
	path := shortest(spot{0, 0}, knight, func(s spot) bool { return s == spot{7, 7} })
	if len(path) != 7 || path[0] != (spot{0, 0}) || path[6] != (spot{7, 7}) {
		t.Fatalf("shortest: %v", path)
	}
	for i := range 6 {
		if !slices.Contains(knight(path[i]), path[i+1]) {
			t.Errorf("shortest: from %v to %v", path[i], path[i+1])
		}
	}
	if none := shortest(spot{0, 0}, knight, func(spot) bool { return false }); none != nil {
		t.Errorf("shortest to nothing: %v", none)
	}
}

func TestSearchesOfTexts(t *testing.T) {
	needs := map[string][]string{"a": {"b"}, "b": {"c", "d"}, "c": {"a"}, "d": {"e"}, "e": {"d"}, "f": {"a", "f"}}
	needed := map[string][]string{}
	for v, list := range needs {
		for _, w := range list {
			needed[w] = append(needed[w], v)
		}
	}
	of := func(m map[string][]string) func(string) []string { return func(v string) []string { return m[v] } }
	var got []string
	for _, part := range components([]string{"e", "f", "c", "a", "b", "d"}, of(needs), of(needed)) {
		slices.Sort(part)
		got = append(got, strings.Join(part, ""))
	}
	slices.Sort(got)
	if want := []string{"abc", "de", "f"}; !slices.Equal(got, want) {
		t.Errorf("components: %v, want %v", got, want)
	}
	if path := shortest("f", of(needs), func(v string) bool { return v == "e" }); strings.Join(path, "") != "fabde" {
		t.Errorf("shortest: %v", path)
	}
}

// Of several shortest paths it is the least, where needs are rising.
func TestShortestIsLeast(t *testing.T) {
	r := sourceOf(5)
	for range 500 {
		g := someGraph(r, 8, 20, false)
		p := plainOf(g)
		for a := range g.N {
			for b := range g.N {
				want, _ := p.way(a, b)
				if got := wayOf(g, a, b); !slices.Equal(got, want) {
					t.Errorf("%v: from %d to %d: %v, want %v", g.Edges, a, b, got, want)
				}
			}
		}
	}
	if got := wayOf(api.Graph{N: 1}, 0, 0); !slices.Equal(got, []int{0}) {
		t.Errorf("a path of one node: %v", got)
	}
}
