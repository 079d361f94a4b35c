package graph

import (
	"iter"
	"slices"
)

// mark marks a vertex, and says whether it was not marked before. (That the marks grow tells it with one look into them, not two.)
func mark[V comparable](marks map[V]struct{}, v V) bool {
	before := len(marks)
	marks[v] = struct{}{}
	return len(marks) > before
}

// layers goes over what vertices lead to, all of one distance at a time. A layer belongs to the one who asks, who may put it in another order.
func layers[V comparable](starts []V, needs func(V) []V) iter.Seq[[]V] {
	return func(yield func([]V) bool) {
		marks := map[V]struct{}{}
		layer := appendFresh(nil, starts, marks)
		for len(layer) > 0 && yield(layer) {
			var next []V
			for _, v := range layer {
				next = appendFresh(next, needs(v), marks)
			}
			layer = next
		}
	}
}

// appendFresh marks vertices, and appends those that were not marked.
func appendFresh[V comparable](list, vertices []V, marks map[V]struct{}) []V {
	for _, v := range vertices {
		if mark(marks, v) {
			list = append(list, v)
		}
	}
	return list
}

// shortest is a shortest path from a vertex to one at which it may end; none if it reaches no such vertex. Where the needs are rising it is the least one: vertices of one distance stand in the queue in the order of their least paths, so that each is found by the least path that leads to it.
func shortest[V comparable](from V, needs func(V) []V, ends func(V) bool) []V {
	by := map[V]V{from: from} // by which vertex each was found
	for queue := []V{from}; len(queue) > 0; queue = queue[1:] {
		v := queue[0]
		if ends(v) {
			return pathBack(from, v, by)
		}
		for _, w := range needs(v) {
			if _, found := by[w]; !found {
				by[w] = v
				queue = append(queue, w)
			}
		}
	}
	return nil
}

// pathBack is the path from one vertex to another that was found from there.
func pathBack[V comparable](from, to V, by map[V]V) []V {
	path := []V{to}
	for v := to; v != from; v = by[v] {
		path = append(path, by[v])
	}
	slices.Reverse(path)
	return path
}

// components is the greatest parts in which each vertex leads to every other one. If one part leads to another, a vertex of the one comes last in ended: so from the last vertex on, what leads to a vertex and is in no part yet is its part.
func components[V comparable](vertices []V, needs, needed func(V) []V) [][]V {
	marks := map[V]struct{}{}
	var ended []V
	for _, v := range vertices {
		ended = appendEnded(ended, v, needs, marks)
	}
	clear(marks)
	var parts [][]V
	for _, v := range slices.Backward(ended) {
		if part := appendEnded(nil, v, needed, marks); len(part) > 0 {
			parts = append(parts, part)
		}
	}
	return parts
}

// visit is a vertex that a search has come to, and which of its needs it has not looked at yet.
type visit[V any] struct {
	vertex V
	rest   []V
}

// appendEnded marks what a vertex leads to, and appends what was not marked, each when the search has ended with all that it leads to. (It has a stack of its own, as a path may be as long as there are vertices.)
func appendEnded[V comparable](ended []V, from V, needs func(V) []V, marks map[V]struct{}) []V {
	if !mark(marks, from) {
		return ended
	}
	stack := []visit[V]{{from, needs(from)}}
	for len(stack) > 0 {
		top := &stack[len(stack)-1]
		if len(top.rest) == 0 {
			ended = append(ended, top.vertex)
			stack = stack[:len(stack)-1]
			continue
		}
		next := top.rest[0]
		top.rest = top.rest[1:]
		if mark(marks, next) {
			stack = append(stack, visit[V]{next, needs(next)})
		}
	}
	return ended
}
