package graph

import (
	"cmp"
	"slices"
)

// groups is the strongly connected groups in their order, each with its members rising.
func (n needLists) groups() [][]int {
	found := n.components()
	for _, members := range found {
		slices.Sort(members)
	}
	// Numbered by their least members, the order of nodes is the order of groups.
	slices.SortFunc(found, func(a, b []int) int { return cmp.Compare(a[0], b[0]) })
	between := n.between(numbersOf(found, len(n)), len(found))
	out := make([][]int, len(found))
	for i, k := range between.order() {
		out[i] = found[k]
	}
	return out
}

func (n needLists) components() [][]int {
	return components(n.nodes(), n.of, turned(n).of)
}

// numbersOf is, of each of so many nodes, the number of its group.
func numbersOf(groups [][]int, nodes int) []int {
	of := make([]int, nodes)
	for i, members := range groups {
		for _, v := range members {
			of[v] = i
		}
	}
	return of
}

// between is which of so many groups need which others; of each node, of is the number of its group.
func (n needLists) between(of []int, groups int) needLists {
	needed := make([][]int, groups)
	for a := range len(n) {
		for _, b := range n[a] {
			if of[a] != of[b] {
				needed[of[b]] = append(needed[of[b]], of[a])
			}
		}
	}
	return turned(needed)
}

// leastOnCycle is the least node that lies on a cycle; false if there is none.
func (n needLists) leastOnCycle() (int, bool) {
	least := len(n)
	for _, members := range n.components() {
		if len(members) > 1 || n.has(members[0], members[0]) {
			least = min(least, slices.Min(members))
		}
	}
	return least, least < len(n)
}
