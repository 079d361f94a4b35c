package depot

import (
	"math"

	"graft/api"
)

// found is the number of an object whose group has been found.
const found = math.MaxInt

// weave is a search for the groups of objects. (A depot may have more cards than package graph takes nodes.)
type weave struct {
	objects []api.Object
	refs    [][]int // of each object, those of the others that it refers to
	count   int     // how many the search has come to
	lows    []int   // of each that it has come to, the least number of one that this one leads back to; or found
	path    []int   // those that it has come to and whose groups have not been found
	groups  [][]api.Object
}

// groupsOf is the groups of objects, each of which may refer to others too.
func groupsOf(objects []api.Object) [][]api.Object {
	w := &weave{objects: objects, refs: make([][]int, len(objects)), lows: make([]int, len(objects))}
	places := make(map[api.Label]int, len(objects))
	for i, o := range objects {
		places[o.Label] = i
	}
	for i, o := range objects {
		for _, ref := range o.Refs {
			if to, in := places[ref]; in {
				w.refs[i] = append(w.refs[i], to)
			}
		}
	}
	for i := range objects {
		if w.lows[i] == 0 {
			w.visit(i)
		}
	}
	return w.groups
}

// visit comes to an object, and to all that it leads to. If nothing of that leads back to one ahead of it on the path, what stands
// on the path from it on is its group.
func (w *weave) visit(i int) {
	w.count++
	number, from := w.count, len(w.path)
	w.lows[i] = number
	w.path = append(w.path, i)
	for _, to := range w.refs[i] {
		if w.lows[to] == 0 {
			w.visit(to)
		}
		w.lows[i] = min(w.lows[i], w.lows[to])
	}
	if w.lows[i] < number {
		return
	}
	var group []api.Object
	for _, member := range w.path[from:] {
		w.lows[member] = found
		group = append(group, w.objects[member])
	}
	w.groups = append(w.groups, group)
	w.path = w.path[:from]
}
