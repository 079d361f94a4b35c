package graph

import "graft/api"

const wordBits = 64

// nodeMarks is a set of nodes of a graph that may be reduced.
type nodeMarks [api.MaxReduce / wordBits]uint64

func (m *nodeMarks) put(v int) { m[v/wordBits] |= 1 << (v % wordBits) }

func (m *nodeMarks) has(v int) bool { return m[v/wordBits]>>(v%wordBits)&1 == 1 }

// join puts all that another set has.
func (m *nodeMarks) join(other *nodeMarks) {
	for i := range len(m) {
		m[i] |= other[i]
	}
}

// reduced is what is left of needs if those go to which a longer path leads too. No node may lie on a cycle; order is theirs, what is needed first.
func (n needLists) reduced(order []int) needLists {
	out := make(needLists, len(n))
	below := make([]nodeMarks, len(n)) // what paths of length 1 or more lead to from each node
	var far nodeMarks                  // what paths of length 2 or more lead to from one
	for _, a := range order {
		clear(far[:])
		for _, b := range n[a] {
			far.join(&below[b])
		}
		below[a] = far
		for _, b := range n[a] {
			below[a].put(b)
			if !far.has(b) {
				out[a] = append(out[a], b)
			}
		}
	}
	return out
}
