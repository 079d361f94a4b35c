package graph

import (
	"fmt"
	"math"
	"slices"
	"testing"

	"graft/api"
)

// example is the graph of the chapter's examples, with edges beside its own.
func example(edges ...[2]int) api.Graph {
	return api.Graph{N: 5, Edges: append([][2]int{{0, 1}, {1, 2}, {2, 1}, {3, 2}, {3, 0}, {0, 2}}, edges...)}
}

// free is the example without {2, 1}.
func free() api.Graph {
	g := example()
	g.Edges = slices.Delete(g.Edges, 2, 3)
	return g
}

// The chapter's examples, by their numbers.
func TestExamples(t *testing.T) {
	g, f := example(), free()
	none := []int(nil)
	for _, c := range []struct {
		what string
		got  []any
		want []any
	}{
		{"1", list(Groups(g)), list([][]int{{1, 2}, {0}, {3}, {4}}, api.OK)},
		{"2", list(Condense(g)), list(api.Graph{N: 4, Edges: [][2]int{{1, 0}, {2, 0}, {2, 1}}}, []int{1, 0, 0, 2, 3}, api.OK)},
		{"3", list(Close(g, []int{0})), list([]int{0, 1, 2}, api.OK)},
		{"3", list(gather(Each(g, []int{3}))), list([][2]int{{3, 0}, {0, 1}, {2, 1}, {1, 2}})},
		{"4", list(Way(g, 3, 1)), list([]int{3, 0, 1}, api.OK)},
		{"4", list(Way(g, 1, 0)), list(none, api.ErrNone)},
		{"4", list(Way(g, 4, 4)), list([]int{4}, api.OK)},
		{"5", list(Order(g)), list(none, api.ErrCycle)},
		{"5", list(Cycle(g)), list([]int{1, 2}, api.OK)},
		{"5", list(Cycle(example([2]int{4, 4}))), list([]int{1, 2}, api.OK)},
		{"5", list(Cycle(example([2]int{0, 0}))), list([]int{0}, api.OK)},
		{"6", list(Order(f)), list([]int{2, 1, 0, 3, 4}, api.OK)},
		{"6", list(Levels(f)), list([]int{2, 1, 0, 3, 0}, api.OK)},
		{"6", list(Reduce(f)), list(api.Graph{N: 5, Edges: [][2]int{{0, 1}, {1, 2}, {3, 0}}}, api.OK)},
		{"7", list(Check(api.Graph{N: 3, Edges: [][2]int{{0, 3}}})), list(api.ErrEdge, 0)},
		{"7", list(Check(api.Graph{N: -1, Edges: [][2]int{{0, 3}}})), list(api.ErrArg, 0)},
		{"8", list(Close(g, []int{5})), list(none, api.ErrVertex)},
		{"8", list(Close(g, nil)), list(none, api.OK)},
		{"9", list(Groups(api.Graph{})), list([][]int{}, api.OK)},
		{"9", list(Order(api.Graph{})), list(none, api.OK)},
		{"9", list(Cycle(api.Graph{})), list(none, api.ErrNone)},
		{"9", list(Levels(api.Graph{})), list(none, api.OK)},
		{"10", list(Transpose(g)), list(api.Graph{N: 5, Edges: [][2]int{{0, 3}, {1, 0}, {1, 2}, {2, 0}, {2, 1}, {2, 3}}}, api.OK)},
	} {
		check(t, g, "example "+c.what, c.got, c.want)
	}
	hold(t, g)
	hold(t, f)
}

// P8.1 to P8.8: every graph of up to three nodes, and some greater ones.
func TestPlainReading(t *testing.T) {
	for n := range 4 {
		for _, g := range allGraphs(n) {
			hold(t, g)
		}
	}
	r := sourceOf(1)
	for i := range 1200 {
		n := 4 + r.IntN(5)
		hold(t, someGraph(r, n, r.IntN(3*n), i%2 == 0))
	}
}

// P8.1.
func TestCheck(t *testing.T) {
	full := make([][2]int, api.MaxEdges)
	over := append(slices.Clone(full), [2]int{5, 5})
	for _, c := range []struct {
		g  api.Graph
		e  api.Errno
		at int
	}{
		{api.Graph{}, api.OK, 0}, {api.Graph{N: 0, Edges: [][2]int{}}, api.OK, 0}, {api.Graph{N: 1}, api.OK, 0},
		{api.Graph{N: api.MaxVertices}, api.OK, 0}, {api.Graph{N: 8193}, api.ErrArg, 0}, {api.Graph{N: math.MaxInt}, api.ErrArg, 0},
		{api.Graph{N: -1}, api.ErrArg, 0}, {api.Graph{N: math.MinInt}, api.ErrArg, 0},
		{api.Graph{N: 1, Edges: full}, api.OK, 0}, {api.Graph{N: 1, Edges: over}, api.ErrLong, 0}, {api.Graph{N: 6, Edges: over}, api.ErrLong, 0},
		{api.Graph{N: -1, Edges: over}, api.ErrArg, 0}, {api.Graph{N: 8193, Edges: over}, api.ErrArg, 0}, {api.Graph{N: 8193, Edges: [][2]int{{0, -1}}}, api.ErrArg, 0},
		{api.Graph{N: 0, Edges: full}, api.ErrEdge, 0}, {api.Graph{N: 5, Edges: over[1:]}, api.ErrEdge, api.MaxEdges - 1},
		{api.Graph{N: 0, Edges: over}, api.ErrLong, 0},
		{api.Graph{N: 2, Edges: [][2]int{{0, 1}, {1, 0}, {1, 1}, {0, 0}, {0, 1}}}, api.OK, 0},
		{api.Graph{N: 2, Edges: [][2]int{{1, 1}, {2, 0}}}, api.ErrEdge, 1}, {api.Graph{N: 2, Edges: [][2]int{{1, 1}, {0, 2}}}, api.ErrEdge, 1},
		{api.Graph{N: 2, Edges: [][2]int{{1, 1}, {0, 1}, {3, 0}}}, api.ErrEdge, 2}, {api.Graph{N: 2, Edges: [][2]int{{1, 1}, {0, 1}, {0, 3}}}, api.ErrEdge, 2},
		{api.Graph{N: 2, Edges: [][2]int{{-1, 0}}}, api.ErrEdge, 0}, {api.Graph{N: 2, Edges: [][2]int{{0, -1}}}, api.ErrEdge, 0},
		{api.Graph{N: 2, Edges: [][2]int{{0, 0}, {0, math.MaxInt}, {-1, -1}, {2, 2}}}, api.ErrEdge, 1},
		{api.Graph{N: 2, Edges: [][2]int{{0, 0}, {math.MinInt, 1}, {2, 2}}}, api.ErrEdge, 1},
		{api.Graph{N: api.MaxVertices, Edges: [][2]int{{8191, 8191}, {0, 8192}}}, api.ErrEdge, 1},
	} {
		e, at := Check(c.g)
		check(t, c.g, "Check", list(e, at), list(c.e, c.at))
	}
}

// answers is what every call answers but Check; the error comes last, but for Each, which has none.
func answers(g api.Graph, roots []int, a, b int) map[string][]any {
	return map[string][]any{
		"Norm": list(Norm(g)), "Transpose": list(Transpose(g)), "Close": list(Close(g, roots)), "Each": list(gather(Each(g, roots))),
		"Reaches": list(Reaches(g, a, b)), "Way": list(Way(g, a, b)), "Groups": list(Groups(g)), "Condense": list(Condense(g)),
		"Order": list(Order(g)), "Levels": list(Levels(g)), "Cycle": list(Cycle(g)), "Reduce": list(Reduce(g)),
	}
}

// refused is what they answer by an error that all of them answer first.
func refused(e api.Errno) map[string][]any {
	return map[string][]any{
		"Norm": list(api.Graph{}, e), "Transpose": list(api.Graph{}, e), "Close": list([]int(nil), e), "Each": list([][2]int(nil)),
		"Reaches": list(false, e), "Way": list([]int(nil), e), "Groups": list([][]int(nil), e), "Condense": list(api.Graph{}, []int(nil), e),
		"Order": list([]int(nil), e), "Levels": list([]int(nil), e), "Cycle": list([]int(nil), e), "Reduce": list(api.Graph{}, e),
	}
}

// P8.1: every other call answers Check's error first, whatever else would be one.
func TestRefusedGraphs(t *testing.T) {
	for _, g := range []api.Graph{
		{N: -1}, {N: math.MinInt, Edges: [][2]int{{0, 0}}}, {N: 8193}, {N: 8193, Edges: [][2]int{{1, 1}}},
		{N: 4, Edges: make([][2]int, api.MaxEdges+1)}, {N: 2000, Edges: make([][2]int, api.MaxEdges+1)},
		{N: 3, Edges: [][2]int{{0, 1}, {1, 0}, {2, 3}}}, {N: 3, Edges: [][2]int{{-1, 0}}}, {N: 0, Edges: [][2]int{{0, 0}}}, {N: 2000, Edges: [][2]int{{0, 0}, {0, 2000}}},
	} {
		e, _ := Check(g)
		if e == api.OK {
			t.Errorf("N %d: it is taken", g.N)
		}
		want := refused(e)
		for _, roots := range [][]int{nil, {0}, {-1}, {g.N}} {
			for _, b := range []int{0, 2, -1, g.N} {
				for what, got := range answers(g, roots, 0, b) {
					check(t, g, what, got, want[what])
				}
			}
		}
	}
}

// P8.2: edges twice, out of order, from a node to itself.
func TestNorm(t *testing.T) {
	g := api.Graph{N: 12, Edges: [][2]int{{10, 2}, {2, 10}, {2, 9}, {2, 9}, {0, 0}, {10, 2}, {11, 11}, {2, 1}, {0, 11}, {0, 0}}}
	check(t, g, "Norm", list(Norm(g)), list(api.Graph{N: 12, Edges: [][2]int{{0, 0}, {0, 11}, {2, 1}, {2, 9}, {2, 10}, {10, 2}, {11, 11}}}, api.OK))
	check(t, g, "Transpose", list(Transpose(g)), list(api.Graph{N: 12, Edges: [][2]int{{0, 0}, {1, 2}, {2, 10}, {9, 2}, {10, 2}, {11, 0}, {11, 11}}}, api.OK))
	alone := api.Graph{N: 3}
	check(t, alone, "Norm", list(Norm(alone)), list(alone, api.OK))
	check(t, alone, "Transpose", list(Transpose(alone)), list(alone, api.OK))
}

// P8.4: roots and nodes that are none, far ones too.
func TestNodesThatAreNone(t *testing.T) {
	g := example()
	for _, v := range []int{-1, 5, 6, math.MaxInt, math.MinInt} {
		for _, pair := range [][2]int{{v, 0}, {0, v}, {v, v}} {
			check(t, g, "Way", list(Way(g, pair[0], pair[1])), list([]int(nil), api.ErrVertex))
			check(t, g, "Reaches", list(Reaches(g, pair[0], pair[1])), list(false, api.ErrVertex))
		}
		for _, roots := range [][]int{{v}, {0, v}, {v, 0}, {0, 1, 2, 3, 4, v}, {v, v}} {
			check(t, g, "Close", list(Close(g, roots)), list([]int(nil), api.ErrVertex))
			check(t, g, "Each", list(gather(Each(g, roots))), list([][2]int(nil)))
		}
	}
	check(t, api.Graph{}, "Way of no nodes", list(Way(api.Graph{}, 0, 0)), list([]int(nil), api.ErrVertex))
	check(t, api.Graph{}, "Close of no nodes", list(Close(api.Graph{}, []int{0})), list([]int(nil), api.ErrVertex))
	check(t, api.Graph{}, "Close of no nodes", list(Close(api.Graph{}, []int{})), list([]int(nil), api.OK))
}

// P8.3: roots that stand more than once, and nodes that are not reached.
func TestClose(t *testing.T) {
	g := api.Graph{N: 9, Edges: [][2]int{{8, 1}, {1, 8}, {1, 3}, {3, 3}, {5, 8}, {6, 5}, {2, 0}}}
	for _, c := range []struct {
		roots []int
		want  [][2]int
	}{
		{[]int{8}, [][2]int{{8, 0}, {1, 1}, {3, 2}}},
		{[]int{8, 8, 8}, [][2]int{{8, 0}, {1, 1}, {3, 2}}},
		{[]int{4}, [][2]int{{4, 0}}},
		{[]int{8, 3, 8}, [][2]int{{3, 0}, {8, 0}, {1, 1}}},
		{[]int{6, 2, 6, 2}, [][2]int{{2, 0}, {6, 0}, {0, 1}, {5, 1}, {8, 2}, {1, 3}, {3, 4}}},
		{[]int{}, nil},
	} {
		var nodes []int
		for _, x := range c.want {
			nodes = append(nodes, x[0])
		}
		slices.Sort(nodes)
		check(t, g, fmt.Sprint("Each ", c.roots), list(gather(Each(g, c.roots))), list(c.want))
		check(t, g, fmt.Sprint("Close ", c.roots), list(Close(g, c.roots)), list(nodes, api.OK))
	}
	many := slices.Repeat([]int{4, 2, 4}, 1<<18) // there is no bound on how often a root may stand
	check(t, g, "Close of many roots", list(Close(g, many)), list([]int{0, 2, 4}, api.OK))
}

// P8.4 and P8.7: several that are as short, of which the least is asked.
func TestLeastPaths(t *testing.T) {
	// The least path to 9 goes by the greater one of 5 and 6: by 1, not by 2.
	g := api.Graph{N: 10, Edges: [][2]int{{0, 2}, {0, 1}, {1, 6}, {2, 5}, {5, 9}, {6, 9}, {9, 0}, {1, 7}, {7, 9}}}
	check(t, g, "Way", list(Way(g, 0, 9)), list([]int{0, 1, 6, 9}, api.OK))
	check(t, g, "Cycle", list(Cycle(g)), list([]int{0, 1, 6, 9}, api.OK))
	// A shorter one is asked for ahead of a lesser one.
	g.Edges = append(g.Edges, [2]int{0, 8}, [2]int{8, 9})
	check(t, g, "Way", list(Way(g, 0, 9)), list([]int{0, 8, 9}, api.OK))
	check(t, g, "Cycle", list(Cycle(g)), list([]int{0, 8, 9}, api.OK))
	hold(t, g)
	// The least node that lies on a cycle, though others lie on shorter ones, and 0 and 1 lead there.
	g = api.Graph{N: 8, Edges: [][2]int{{0, 7}, {1, 3}, {7, 7}, {6, 5}, {5, 6}, {2, 4}, {4, 3}, {3, 2}, {4, 6}}}
	check(t, g, "Cycle", list(Cycle(g)), list([]int{2, 4, 3}, api.OK))
	// A node that needs itself has a cycle of one, whatever else it lies on.
	g.Edges = append(g.Edges, [2]int{2, 2})
	check(t, g, "Cycle", list(Cycle(g)), list([]int{2}, api.OK))
	hold(t, g)
}

// P8.5: groups of which several could come next.
func TestGroups(t *testing.T) {
	g := api.Graph{N: 11, Edges: [][2]int{{3, 10}, {10, 3}, {5, 4}, {4, 5}, {0, 9}, {9, 0}, {9, 4}, {7, 7}, {1, 8}, {8, 6}}}
	// 2, {3, 10}, {4, 5}, 6 and 7 are free first; {4, 5} frees {0, 9}, 6 frees 8, and 8 frees 1.
	groups := [][]int{{2}, {3, 10}, {4, 5}, {0, 9}, {6}, {7}, {8}, {1}}
	check(t, g, "Groups", list(Groups(g)), list(groups, api.OK))
	small := api.Graph{N: 8, Edges: [][2]int{{3, 2}, {6, 4}, {7, 6}}}
	check(t, g, "Condense", list(Condense(g)), list(small, []int{3, 7, 0, 1, 2, 2, 4, 5, 6, 3, 1}, api.OK))
	// Woven rings are one group; between groups an edge stands once, and none from a group to itself.
	g = api.Graph{N: 7, Edges: [][2]int{{6, 1}, {1, 4}, {4, 6}, {4, 2}, {2, 4}, {0, 6}, {0, 2}, {0, 4}, {0, 0}, {3, 0}, {3, 1}, {3, 1}}}
	check(t, g, "Groups", list(Groups(g)), list([][]int{{1, 2, 4, 6}, {0}, {3}, {5}}, api.OK))
	check(t, g, "Condense", list(Condense(g)), list(api.Graph{N: 4, Edges: [][2]int{{1, 0}, {2, 0}, {2, 1}}}, []int{1, 0, 0, 2, 0, 3, 0}, api.OK))
	hold(t, g)
}

// P8.6: a cycle anywhere, of one node too, and levels by the longest path.
func TestOrderAndLevels(t *testing.T) {
	g := api.Graph{N: 6, Edges: [][2]int{{0, 5}, {5, 4}, {5, 2}, {4, 2}, {0, 2}, {3, 1}}}
	check(t, g, "Order", list(Order(g)), list([]int{1, 2, 3, 4, 5, 0}, api.OK))
	check(t, g, "Levels", list(Levels(g)), list([]int{3, 0, 0, 1, 1, 2}, api.OK))
	for _, edge := range [][2]int{{3, 3}, {1, 3}, {2, 0}} {
		x := api.Graph{N: 6, Edges: append(slices.Clone(g.Edges), edge)}
		check(t, x, "Order", list(Order(x)), list([]int(nil), api.ErrCycle))
		check(t, x, "Levels", list(Levels(x)), list([]int(nil), api.ErrCycle))
		check(t, x, "Reduce", list(Reduce(x)), list(api.Graph{}, api.ErrCycle))
	}
}

// P8.8: ways of several lengths between two nodes.
func TestReduce(t *testing.T) {
	g := api.Graph{N: 70, Edges: [][2]int{{69, 0}, {69, 64}, {64, 63}, {63, 0}, {64, 0}, {69, 63}, {69, 0}, {1, 0}, {69, 1}, {65, 66}, {65, 67}, {66, 68}, {67, 68}}}
	want := api.Graph{N: 70, Edges: [][2]int{{1, 0}, {63, 0}, {64, 63}, {65, 66}, {65, 67}, {66, 68}, {67, 68}, {69, 1}, {69, 64}}}
	check(t, g, "Reduce", list(Reduce(g)), list(want, api.OK))
	check(t, g, "Reduce of none", list(Reduce(api.Graph{})), list(api.Graph{}, api.OK))
	loop := [][2]int{{0, 0}}
	check(t, g, "1024 nodes", list(Reduce(api.Graph{N: 1024})), list(api.Graph{N: 1024}, api.OK))
	check(t, g, "1024 nodes and a cycle", list(Reduce(api.Graph{N: 1024, Edges: loop})), list(api.Graph{}, api.ErrCycle))
	check(t, g, "1025 nodes", list(Reduce(api.Graph{N: 1025})), list(api.Graph{}, api.ErrLong))
	check(t, g, "1025 nodes and a cycle", list(Reduce(api.Graph{N: 1025, Edges: loop})), list(api.Graph{}, api.ErrLong))
	check(t, g, "1025 nodes and a wrong edge", list(Reduce(api.Graph{N: 1025, Edges: [][2]int{{0, 1025}}})), list(api.Graph{}, api.ErrEdge))
}
