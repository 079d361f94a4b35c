package forge

import (
	"slices"
	"strings"

	"graft/api"
	"graft/ark"
	"graft/label"
)

// scrap is the tree beside the outputs, for what is not to be kept.
const scrap = "tmp"

// bench is where a recipe's trees are made.
type bench struct {
	roots  map[string]int // by the first name of their ways, the trees' numbers
	trees  []*api.Node    // nil: it is not there
	arks   func(api.Label) []byte
	inputs map[api.Label]*api.Node // those that were asked for
}

func benchFor(outputs []api.Output, arks func(api.Label) []byte) *bench {
	b := &bench{roots: make(map[string]int), arks: arks, inputs: make(map[api.Label]*api.Node)}
	for i, o := range outputs {
		b.roots[o.Name] = i
	}
	if _, output := b.roots[scrap]; !output {
		b.roots[scrap] = len(outputs)
	}
	b.trees = make([]*api.Node, len(b.roots))
	return b
}

// outputs is the first n trees; false if one is not there.
func (b *bench) outputs(n int) ([]api.Node, bool) {
	out := make([]api.Node, n)
	for i, tree := range b.trees[:n] {
		if tree == nil {
			return nil, false
		}
		out[i] = *tree
	}
	return out, true
}

// spot is a place on the bench: a tree, and the entries' names that lead into it.
type spot struct {
	tree  int
	names []string
}

// spot is where a way leads; false if it is none. Names that may not be are not looked for here: nothing is found by them,
// and a tree that comes to have one is refused.
func (b *bench) spot(way string) (spot, bool) {
	names := strings.Split(way, "/")
	tree, ok := b.roots[names[0]]
	return spot{tree, names[1:]}, ok
}

// at is the node at a spot; nil if there is none.
func (b *bench) at(p spot) *api.Node { return within(b.trees[p.tree], p.names) }

// within is the node to which names lead, from entry to entry; nil if there is none.
func within(n *api.Node, names []string) *api.Node {
	for _, name := range names {
		if n == nil {
			return nil
		}
		i, found := entryOf(n, name)
		if !found {
			return nil
		}
		n = &n.List[i].Node
	}
	return n
}

// entryOf is where in a node's list a name stands, or would stand. Only a directory has a list.
func entryOf(n *api.Node, name string) (int, bool) {
	return slices.BinarySearchFunc(n.List, name, func(x api.Entry, name string) int { return strings.Compare(x.Name, name) })
}

// from is the node at a way, or at a way into an input; nil if there is none.
func (b *bench) from(text string) *api.Node {
	if !strings.HasPrefix(text, "/") {
		p, ok := b.spot(text)
		if !ok {
			return nil
		}
		return b.at(p)
	}
	l, names, e, _ := label.Split(text)
	if e != api.OK {
		return nil
	}
	return within(b.input(l), names)
}

// input is an input's tree, read once; nil if there is none.
func (b *bench) input(l api.Label) *api.Node {
	if n, read := b.inputs[l]; read {
		return n
	}
	n, e, _ := ark.Parse(b.arks(l))
	if e != api.OK {
		return nil
	}
	b.inputs[l] = &n
	return &n
}

// lay makes a node at a way, with all that is within it; false if that fails.
func (b *bench) lay(way string, n api.Node) bool {
	p, ok := b.spot(way)
	if !ok || b.at(p) != nil {
		return false
	}
	if len(p.names) == 0 {
		b.trees[p.tree] = &n
		return b.fits(p)
	}
	last := len(p.names) - 1
	dir := within(b.trees[p.tree], p.names[:last])
	if dir == nil || dir.Kind != api.KindDir {
		return false
	}
	i, _ := entryOf(dir, p.names[last])
	dir.List = slices.Insert(dir.List, i, api.Entry{Name: p.names[last], Node: n})
	return b.fits(p)
}

// fits says whether the tree of a spot is one that can be archived.
func (b *bench) fits(p spot) bool {
	_, e := ark.Size(*b.trees[p.tree])
	return e == api.OK
}

// take takes the node at a way away: what is left is no larger, so it fits.
func (b *bench) take(way string) (api.Node, bool) {
	p, ok := b.spot(way)
	if !ok || b.at(p) == nil {
		return api.Node{}, false
	}
	n := *b.at(p)
	if len(p.names) == 0 {
		b.trees[p.tree] = nil
		return n, true
	}
	last := len(p.names) - 1
	dir := within(b.trees[p.tree], p.names[:last])
	i, _ := entryOf(dir, p.names[last])
	dir.List = slices.Delete(dir.List, i, i+1)
	return n, true
}

// change lets the file at a way be changed; false if that fails.
func (b *bench) change(way string, with func(file *api.Node) bool) bool {
	p, ok := b.spot(way)
	if !ok {
		return false
	}
	n := b.at(p)
	return isFile(n) && with(n) && b.fits(p)
}

func isFile(n *api.Node) bool { return n != nil && n.Kind == api.KindFile }
