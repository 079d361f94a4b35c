package graph

import (
	"slices"

	"graft/api"
)

// needLists is, of each node, the nodes that it needs: rising, none twice.
type needLists [][]int

// needsOf is what the nodes of a graph need that may be one.
func needsOf(g api.Graph) needLists {
	needed := make([][]int, g.N)
	for _, edge := range g.Edges {
		needed[edge[1]] = append(needed[edge[1]], edge[0])
	}
	return turned(needed)
}

// turned is, of each node, the lists in which it stands: rising, none twice, whatever order the lists have, as they are gone over by their numbers.
func turned(lists [][]int) needLists {
	out := make(needLists, len(lists))
	for b := range len(lists) {
		for _, a := range lists[b] {
			if k := len(out[a]); k == 0 || out[a][k-1] != b {
				out[a] = append(out[a], b)
			}
		}
	}
	return out
}

func (n needLists) of(v int) []int { return n[v] }

// has says whether a needs b.
func (n needLists) has(a, b int) bool {
	_, ok := slices.BinarySearch(n[a], b)
	return ok
}

// nodes is all of them, rising.
func (n needLists) nodes() []int {
	out := make([]int, len(n))
	for v := range len(n) {
		out[v] = v
	}
	return out
}

// graph is the same with its edges in order.
func (n needLists) graph() api.Graph {
	g := api.Graph{N: len(n)}
	for a := range len(n) {
		for _, b := range n[a] {
			g.Edges = append(g.Edges, [2]int{a, b})
		}
	}
	return g
}
