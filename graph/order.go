package graph

import "container/heap"

// leastFirst is nodes of which the least comes next, for container/heap.
type leastFirst []int

func (l leastFirst) Len() int           { return len(l) }
func (l leastFirst) Less(i, j int) bool { return l[i] < l[j] }
func (l leastFirst) Swap(i, j int)      { l[i], l[j] = l[j], l[i] }
func (l *leastFirst) Push(v any)        { *l = append(*l, v.(int)) }

func (l *leastFirst) Pop() any {
	last := len(*l) - 1
	v := (*l)[last]
	*l = (*l)[:last]
	return v
}

// order is the nodes, always the least of those all of whose needs stand already. Nodes that lie on a cycle, or lead to one, never come.
func (n needLists) order() []int {
	needed := turned(n)
	missing := make([]int, len(n)) // how many needs of each node do not stand yet
	free := &leastFirst{}
	for v := range len(n) {
		missing[v] = len(n[v])
		if missing[v] == 0 {
			heap.Push(free, v)
		}
	}
	out := make([]int, 0, len(n))
	for free.Len() > 0 {
		v := heap.Pop(free).(int)
		out = append(out, v)
		for _, w := range needed[v] {
			missing[w]--
			if missing[w] == 0 {
				heap.Push(free, w)
			}
		}
	}
	return out
}
