package forge

import (
	"slices"

	"graft/api"
	"graft/digest"
	"graft/graph"
	"graft/label"
	"graft/modulo"
	"graft/shelf"
	"graft/sieve"
)

// own is a floating recipe's outputs on their way to their own names.
type own struct {
	shelf   *shelf.Shelf
	closure []api.Label
	cast    cast
	scratch []api.Label // of each output the label that it was made under
	trees   []api.Node
	arks    [][]byte          // with scratch hash parts
	hits    [][]api.Hit       // in these; their numbers are those of the cast
	refs    [][]api.Label     // the labels that these hits are of
	outputs map[api.Label]int // by scratch labels, the outputs' numbers

	labels  []api.Label // the new ones
	renamed [][]byte    // the new archives
}

// objects is the outputs as objects that are called after what they hold; false if they can't be.
func (w *own) objects() ([]api.Object, bool) {
	if !w.cast.unlike() {
		return nil, false
	}
	w.outputs = make(map[api.Label]int, len(w.scratch))
	for i, l := range w.scratch {
		w.outputs[l] = i
		w.refs = append(w.refs, w.cast.mentioned(w.hits[i]))
	}
	if !w.mentionsFit() || !w.nameAll() || w.strays() {
		return nil, false
	}
	out := make([]api.Object, len(w.trees))
	for i := range out {
		out[i] = api.Object{Label: w.labels[i], Refs: w.newRefs(i, nil), Ark: w.renamed[i], Ca: api.ByGroup}
	}
	return out, true
}

// mentionsFit says whether outputs mention what they may, where they may.
func (w *own) mentionsFit() bool {
	for i, hits := range w.hits {
		if len(w.refs[i]) > api.MaxRefs || sieve.Overlap(hits, api.Digits) >= 0 || w.inNames(w.trees[i]) {
			return false
		}
	}
	return !slices.ContainsFunc(label.Sort(slices.Concat(w.refs...)), w.isGuest)
}

// inNames says whether a tree has a mention within an entry's name.
func (w *own) inNames(n api.Node) bool {
	return slices.ContainsFunc(n.List, func(x api.Entry) bool {
		return len(w.cast.hits([]byte(x.Name))) > 0 || w.inNames(x.Node)
	})
}

// isGuest says whether a label is that of a guest that the recipe was given. What else is on the shelf has no part in it.
func (w *own) isGuest(l api.Label) bool {
	if !among(w.closure, l) {
		return false
	}
	o, _ := w.shelf.Get(l)
	return o.Ca == api.Guest
}

// nameAll gives the outputs their labels and archives, group by group, from what is referred to upward; false if that can't be.
func (w *own) nameAll() bool {
	w.labels, w.renamed = make([]api.Label, len(w.trees)), make([][]byte, len(w.trees))
	g := api.Graph{N: len(w.trees)}
	for i, refs := range w.refs {
		for _, l := range refs {
			if to, is := w.outputs[l]; is {
				g.Edges = append(g.Edges, [2]int{i, to})
			}
		}
	}
	groups, _ := graph.Groups(g) // a recipe's outputs, and what they may refer to, are not too many
	for _, group := range groups {
		if !w.nameGroup(group) {
			return false
		}
	}
	return true
}

// nameGroup names a group of outputs, those that it refers to having been named; false if it has too many members, or one whose
// name is none.
func (w *own) nameGroup(group []int) bool {
	members := make([]api.Member, len(group))
	for m, i := range group {
		members[m] = w.member(i, group)
	}
	n, e, _ := modulo.Group(members)
	if e != api.OK {
		return false
	}
	arks, _ := modulo.Renamed(members, n) // Group has taken their hits
	for m, i := range group {
		w.labels[i], w.renamed[i] = n.Labels[m], arks[m]
	}
	return true
}

// member is an output as one of its group: of what it mentions outside of the group it has the new hash parts.
func (w *own) member(i int, group []int) api.Member {
	m := api.Member{Name: w.scratch[i].Name, Ark: slices.Clone(w.arks[i]), Refs: w.newRefs(i, group)}
	for _, h := range w.hits[i] {
		to, is := w.outputs[w.cast.labels[h.Which]]
		if !is {
			continue
		}
		if which := slices.Index(group, to); which >= 0 {
			m.Hits = append(m.Hits, api.Hit{At: h.At, Which: which})
		} else {
			copy(m.Ark[h.At:], digest.Base32(w.labels[to].Hash[:]))
		}
	}
	return m
}

// newRefs is the new labels of all that an output mentions, but for some outputs.
func (w *own) newRefs(i int, but []int) []api.Label {
	var out []api.Label
	for _, l := range w.refs[i] {
		to, is := w.outputs[l]
		switch {
		case !is:
			out = append(out, l)
		case !slices.Contains(but, to):
			out = append(out, w.labels[to])
		}
	}
	return label.Sort(out)
}

// strays says whether a new archive has a hash part where its old one mentioned nothing.
func (w *own) strays() bool {
	fresh := castOf(w.labels)
	for i, data := range w.renamed {
		for _, h := range slices.Concat(w.cast.hits(data), fresh.hits(data)) {
			_, old := slices.BinarySearchFunc(w.hits[i], h.At, func(x api.Hit, at int) int { return x.At - at })
			if !old {
				return true
			}
		}
	}
	return false
}
