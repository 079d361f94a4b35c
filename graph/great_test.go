package graph

import (
	"slices"
	"testing"

	"graft/api"
)

const most = api.MaxVertices

// Long chains of as many nodes as may be, both ways, their edges rising and falling.
func TestLongChains(t *testing.T) {
	for _, step := range []int{1, -1} {
		g := chain(most, step)
		top, bottom := 0, most-1
		if step < 0 {
			top, bottom = bottom, top
		}
		var levels []int
		var groups [][]int
		for _, v := range span(bottom, top) {
			groups = append(groups, []int{v})
			levels = append(levels, (bottom-v)*step)
		}
		if step > 0 {
			slices.Reverse(levels)
		}
		for range 2 {
			check(t, g, "Order", list(Order(g)), list(span(bottom, top), api.OK))
			check(t, g, "Groups", list(Groups(g)), list(groups, api.OK))
			check(t, g, "Levels", list(Levels(g)), list(levels, api.OK))
			check(t, g, "Cycle", list(Cycle(g)), list([]int(nil), api.ErrNone))
			check(t, g, "Way", list(Way(g, top, bottom)), list(span(top, bottom), api.OK))
			check(t, g, "Way back", list(Way(g, bottom, top)), list([]int(nil), api.ErrNone))
			check(t, g, "Reaches", list(Reaches(g, top, bottom)), list(true, api.OK))
			check(t, g, "Close", list(Close(g, []int{top})), list(span(0, most-1), api.OK))
			check(t, g, "Norm", list(Norm(g)), list(chain(most, step), api.OK))
			check(t, g, "Transpose", list(Transpose(g)), list(chain(most, -step), api.OK))
			check(t, g, "Condense", list(Condense(g)), list(chain(most, -1), levels, api.OK))
			for i, x := range gather(Each(g, []int{top})) {
				if x != [2]int{top + i*step, i} {
					t.Fatalf("Each: %v at %d", x, i)
				}
			}
			slices.Reverse(g.Edges)
		}
	}
}

// A ring of as many nodes as may be, and many nodes that need themselves alone.
func TestGreatRing(t *testing.T) {
	g := chain(most, 1)
	g.Edges = append(g.Edges, [2]int{most - 1, 0})
	all := span(0, most-1)
	check(t, g, "Groups", list(Groups(g)), list([][]int{all}, api.OK))
	check(t, g, "Condense", list(Condense(g)), list(api.Graph{N: 1}, make([]int, most), api.OK))
	check(t, g, "Cycle", list(Cycle(g)), list(all, api.OK))
	check(t, g, "Order", list(Order(g)), list([]int(nil), api.ErrCycle))
	check(t, g, "Way", list(Way(g, 1, 0)), list(append(span(1, most-1), 0), api.OK))
	alone := api.Graph{N: most}
	check(t, alone, "Order", list(Order(alone)), list(all, api.OK))
	check(t, alone, "Close", list(Close(alone, all)), list(all, api.OK))
	alone.Edges = [][2]int{{most - 1, most - 1}}
	check(t, alone, "Cycle", list(Cycle(alone)), list([]int{most - 1}, api.OK))
}

// As many edges as may be: every call takes them.
func TestMostEdges(t *testing.T) {
	const width = api.MaxEdges / most
	g := api.Graph{N: most} // each node needs the next width ones, as far as there are so many
	for v := range most {
		for k := 1; k <= width; k++ {
			g.Edges = append(g.Edges, [2]int{v, min(v+k, most-1)})
		}
	}
	g.Edges = g.Edges[:len(g.Edges)-width] // the last one would need itself
	check(t, g, "Order", list(Order(g)), list(span(most-1, 0), api.OK))
	check(t, g, "Close", list(Close(g, []int{0})), list(span(0, most-1), api.OK))
	way := []int{0}
	for at := width - 1; at < most; at += width { // the first step is one shorter than it might be
		way = append(way, at)
	}
	check(t, g, "Way", list(Way(g, 0, most-1)), list(way, api.OK))
	for range width {
		g.Edges = append(g.Edges, [2]int{most - 1, 1})
	}
	check(t, g, "edges", list(len(g.Edges)), list(api.MaxEdges))
	check(t, g, "Groups", list(Groups(g)), list([][]int{span(1, most-1), {0}}, api.OK))
	check(t, g, "Condense", list(Condense(g)), list(api.Graph{N: 2, Edges: [][2]int{{1, 0}}}, append([]int{1}, make([]int, most-1)...), api.OK))
	check(t, g, "Order", list(Order(g)), list([]int(nil), api.ErrCycle))
	one := api.Graph{N: 1, Edges: make([][2]int, api.MaxEdges)}
	check(t, one, "Norm", list(Norm(one)), list(api.Graph{N: 1, Edges: [][2]int{{0, 0}}}, api.OK))
	check(t, one, "Cycle", list(Cycle(one)), list([]int{0}, api.OK))
}

// Reduce of as many nodes as it takes, each of which needs all behind it: a chain is left.
func TestGreatReduce(t *testing.T) {
	g := api.Graph{N: api.MaxReduce}
	for a := range g.N {
		for b := range a {
			g.Edges = append(g.Edges, [2]int{a, b})
		}
	}
	check(t, g, "Reduce", list(Reduce(g)), list(chain(g.N, -1), api.OK))
	halves := api.Graph{N: api.MaxReduce} // all of one half need all of the other: all of it is left
	for a := range halves.N / 2 {
		for b := range halves.N / 2 {
			halves.Edges = append(halves.Edges, [2]int{a, b + halves.N/2})
		}
	}
	check(t, halves, "Reduce", list(Reduce(halves)), list(halves, api.OK))
}
