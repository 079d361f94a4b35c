package ark

import (
	"bytes"
	"iter"
	"strings"

	"graft/api"
)

// spot is where a walk has come to; it holds only until the walk goes on.
type spot struct {
	names []string    // those that lead there
	list  []api.Entry // the list in which the node stands; none for the tree itself
	index int         // and at which place
}

// depth is that of the node, 1 for the tree itself.
func (s spot) depth() int {
	return len(s.names) + 1
}

// name is that of the node in its directory; the tree itself has none.
func (s spot) name() string {
	return s.names[len(s.names)-1]
}

// way is the node's.
func (s spot) way() string {
	return strings.Join(s.names, "/")
}

// directory is the way of the directory in which the node stands.
func (s spot) directory() string {
	return strings.Join(s.names[:len(s.names)-1], "/")
}

// walk goes over nodes in their order, as they lie there. It asks for nothing: of what is no tree it may never come to an end.
func walk(n api.Node) iter.Seq2[spot, api.Node] {
	return func(yield func(spot, api.Node) bool) {
		// All spots of a walk have their names in one list: a tree's fit in it.
		visit(spot{names: make([]string, 0, api.MaxDepth)}, n, yield)
	}
}

// visit goes over the nodes from one on, and tells whether there is to be more.
func visit(s spot, n api.Node, yield func(spot, api.Node) bool) bool {
	if !yield(s, n) {
		return false
	}
	for i, x := range n.List {
		if !visit(spot{append(s.names, x.Name), n.List, i}, x.Node, yield) {
			return false
		}
	}
	return true
}

// Each goes through a tree in the order of its archive: each node's way and the node.
func Each(n api.Node) iter.Seq2[string, api.Node] {
	if !isTree(n) {
		return func(func(string, api.Node) bool) {}
	}
	kept := clone(n)
	return func(yield func(string, api.Node) bool) {
		for s, m := range walk(kept) {
			m.Data, m.List = bytes.Clone(m.Data), nil
			if !yield(s.way(), m) {
				return
			}
		}
	}
}
