package graph

import (
	"slices"
	"testing"

	"graft/api"
)

// taken is an answer that must be OK.
func taken[T any](t *testing.T) func(v T, e api.Errno) T {
	return func(v T, e api.Errno) T {
		t.Helper()
		if e != api.OK {
			t.Fatalf("it is refused: %d", e)
		}
		return v
	}
}

// P8.9, of any graph.
func TestFollows(t *testing.T) {
	r := sourceOf(3)
	for i := range 300 {
		n := 1 + r.IntN(40)
		g := someGraph(r, n, r.IntN(3*n), i%3 == 0)
		back := taken[api.Graph](t)(Transpose(g))
		norm := list(Norm(g))
		check(t, g, "Transpose of Transpose", list(Transpose(back)), norm)
		check(t, g, "Norm of Norm", list(Norm(norm[0].(api.Graph))), norm)
		for range 20 {
			a, b := r.IntN(n), r.IntN(n)
			check(t, g, "Reaches in Transpose", list(Reaches(back, b, a)), list(Reaches(g, a, b)))
		}
		groups, other := taken[[][]int](t)(Groups(g)), taken[[][]int](t)(Groups(back))
		slices.SortFunc(groups, slices.Compare[[]int])
		slices.SortFunc(other, slices.Compare[[]int])
		check(t, g, "Groups of Transpose", list(other), list(groups))
		followCondense(t, g)
		root := r.IntN(n)
		each := gather(Each(g, []int{root}))
		if last := each[len(each)-1][1]; last > n-1 {
			t.Errorf("the last distance of %d nodes is %d", n, last)
		}
		closure := taken[[]int](t)(Close(g, []int{root, r.IntN(n)}))
		check(t, g, "Close of Close", list(Close(g, closure)), list(closure, api.OK))
	}
}

// followCondense holds that the groups' graph has no cycle, and is in order by its numbers.
func followCondense(t *testing.T, g api.Graph) {
	t.Helper()
	small, of, e := Condense(g)
	groups := taken[[][]int](t)(Groups(g))
	rising := make([]int, len(groups))
	for i, members := range groups {
		rising[i] = i
		for _, v := range members {
			if of[v] != i {
				t.Errorf("%d is in group %d, not %d", v, of[v], i)
			}
		}
	}
	check(t, g, "Condense", list(small.N, len(of), e), list(len(groups), g.N, api.OK))
	check(t, small, "Order of Condense", list(Order(small)), list(rising, api.OK))
	check(t, small, "Cycle of Condense", list(Cycle(small)), list([]int(nil), api.ErrNone))
	if order, e := Order(g); e == api.OK {
		check(t, g, "Order", list(order), list(slices.Concat(groups...)))
		check(t, g, "Order", list(len(order)), list(len(groups)))
	}
}

// closureOf is which nodes reach which, of a small graph, a bit for each pair.
func closureOf(n int, edges [][2]int) uint64 {
	bit := func(a, b int) uint64 { return 1 << (a*n + b) }
	var out uint64
	for _, e := range edges {
		out |= bit(e[0], e[1])
	}
	for c := range n {
		for a := range n {
			for b := range n {
				if out&bit(a, c) != 0 && out&bit(c, b) != 0 {
					out |= bit(a, b)
				}
			}
		}
	}
	return out
}

// P8.9: Reduce reaches what the graph reaches, with any edge left out no longer, and no smaller set of edges does.
func TestReduceFollows(t *testing.T) {
	const n = 4
	fewest := map[uint64]int{} // of each closure how many edges make it
	graphs := allGraphs(n)
	for _, g := range graphs {
		c := closureOf(n, g.Edges)
		if k, ok := fewest[c]; !ok || len(g.Edges) < k {
			fewest[c] = len(g.Edges)
		}
	}
	reduced := 0
	for _, g := range graphs {
		if _, e := Order(g); e != api.OK {
			continue
		}
		reduced++
		least := taken[api.Graph](t)(Reduce(g))
		c := closureOf(n, g.Edges)
		if closureOf(n, least.Edges) != c || len(least.Edges) != fewest[c] {
			t.Errorf("Reduce of %v: %v", g.Edges, least.Edges)
		}
		for i := range least.Edges {
			if closureOf(n, slices.Delete(slices.Clone(least.Edges), i, i+1)) == c {
				t.Errorf("Reduce of %v: %v has one too many", g.Edges, least.Edges)
			}
		}
	}
	if reduced != 543 {
		t.Errorf("%d graphs of %d nodes without a cycle, want 543", reduced, n)
	}
}

// P8.9: Reduce reaches the same in graphs whose nodes lie in several words of marks.
func TestReduceReaches(t *testing.T) {
	r := sourceOf(4)
	for range 20 {
		n := 60 + r.IntN(140)
		g := someGraph(r, n, 4*n, true)
		least := taken[api.Graph](t)(Reduce(g))
		for v := range n {
			check(t, g, "Close in Reduce", list(Close(least, []int{v})), list(Close(g, []int{v})))
		}
		check(t, g, "Reduce of Reduce", list(Reduce(least)), list(least, api.OK))
		for i, edge := range least.Edges {
			less := api.Graph{N: n, Edges: slices.Delete(slices.Clone(least.Edges), i, i+1)}
			if reaches := taken[bool](t)(Reaches(less, edge[0], edge[1])); reaches {
				t.Errorf("Reduce has %v, and another path", edge)
			}
		}
	}
}
