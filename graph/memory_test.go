package graph

import (
	"fmt"
	"slices"
	"testing"

	"graft/api"
)

// stampable is a list with the room behind it.
type stampable interface {
	stamp(v int)
	bears(v int) bool
}

type numbers []int

func (l numbers) stamp(v int) {
	for i := range l {
		l[i] = v
	}
}

func (l numbers) bears(v int) bool {
	return !slices.ContainsFunc(l, func(x int) bool { return x != v })
}

type pairs [][2]int

func (l pairs) stamp(v int) {
	for i := range l {
		l[i] = [2]int{v, v}
	}
}

func (l pairs) bears(v int) bool {
	return !slices.ContainsFunc(l, func(x [2]int) bool { return x != [2]int{v, v} })
}

// outer is a list of lists: a new list of some length is laid into each place.
type outer [][]int

func (l outer) stamp(v int) {
	for i := range l {
		l[i] = make([]int, v)
	}
}

func (l outer) bears(v int) bool {
	return !slices.ContainsFunc(l, func(x []int) bool { return len(x) != v })
}

// roomsOf is the lists within values, each with the room behind it.
func roomsOf(values []any) []stampable {
	var out []stampable
	for _, v := range values {
		switch x := v.(type) {
		case []int:
			out = append(out, numbers(x[:cap(x)]))
		case [][2]int:
			out = append(out, pairs(x[:cap(x)]))
		case [][]int:
			for _, l := range x[:cap(x)] {
				out = append(out, numbers(l[:cap(l)]))
			}
			out = append(out, outer(x[:cap(x)]))
		case api.Graph:
			out = append(out, pairs(x.Edges[:cap(x.Edges)]))
		}
	}
	return out
}

// apart holds that no two lists share memory: what is written into one, or behind it, shows in no other.
func apart(t *testing.T, values []any) {
	t.Helper()
	rooms := roomsOf(values)
	for i, l := range rooms {
		l.stamp(1000 + i)
	}
	for i, l := range rooms {
		if !l.bears(1000 + i) {
			t.Errorf("list %d of %d shares memory with another one: %T", i, len(rooms), l)
		}
	}
}

// roomy is a list in new memory, with room behind it in which something stands.
func roomy[T any](list []T, behind T) []T {
	return append(slices.Clone(list), behind, behind, behind)[:len(list)]
}

// given is a graph and roots with room behind their lists.
func given(g api.Graph) (api.Graph, []int) {
	roots := []int{g.N - 1, 0, g.N - 1}
	return api.Graph{N: g.N, Edges: roomy(g.Edges, [2]int{77, 78})}, roomy(roots, 79)
}

// whole is what a graph and roots hold, and what stands behind.
func whole(g api.Graph, roots []int) string {
	return fmt.Sprint(g.N, g.Edges, g.Edges[:cap(g.Edges)], roots, roots[:cap(roots)])
}

func memoryGraphs() []api.Graph {
	r := sourceOf(6)
	out := []api.Graph{example(), free(), chain(6, 1), {N: 3}, {N: 1, Edges: [][2]int{{0, 0}, {0, 0}}}, {N: 1}}
	for i := range 20 {
		out = append(out, someGraph(r, 30, 5+i*4, i%2 == 0))
	}
	return append(out, api.Graph{N: 2, Edges: [][2]int{{0, 2}}})
}

// What is handed in stays as it was, its spare room too, and what is handed out has no memory in common with it, or with another answer.
func TestMemory(t *testing.T) {
	for _, plain := range memoryGraphs() {
		g, roots := given(plain)
		before := whole(g, roots)
		Check(g)
		first, second := answers(g, roots, 0, g.N-1), answers(g, roots, 0, g.N-1)
		if whole(g, roots) != before {
			t.Errorf("what was handed in has changed: %s, then %s", before, whole(g, roots))
		}
		text := fmt.Sprint(first)
		if fmt.Sprint(second) != text {
			t.Errorf("%v: two answers differ", plain)
		}
		all := []any{g, roots}
		for what := range first {
			all = append(append(all, first[what]...), second[what]...)
		}
		apart(t, all)
		g, roots = given(plain)
		if fmt.Sprint(answers(g, roots, 0, g.N-1)) != text {
			t.Errorf("%v: what was written into answers shows in later ones", plain)
		}
	}
}

// A graph that was normed already is new memory all the same.
func TestNormedIsNew(t *testing.T) {
	g := api.Graph{N: 3, Edges: [][2]int{{0, 1}, {1, 2}}}
	for what, ask := range map[string]func(api.Graph) (api.Graph, api.Errno){"Norm": Norm, "Reduce": Reduce} {
		x := taken[api.Graph](t)(ask(g))
		x.Edges[0] = [2]int{2, 2}
		check(t, g, what, list(g.Edges), list([][2]int{{0, 1}, {1, 2}}))
	}
}

// nil and empty lists are the same.
func TestNilAndEmpty(t *testing.T) {
	for n := range 3 {
		a, b := api.Graph{N: n}, api.Graph{N: n, Edges: [][2]int{}}
		if x, y := fmt.Sprint(answers(a, nil, 0, 0)), fmt.Sprint(answers(b, []int{}, 0, 0)); x != y {
			t.Errorf("N %d: %s and %s", n, x, y)
		}
	}
}
