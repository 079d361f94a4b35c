package sweep

import (
	"iter"

	"graft/api"
	"graft/label"
	"graft/shelf"
)

// keeper is what keeps objects alive.
type keeper interface {
	// kept goes over the labels of these objects, whether they are on the shelf or not.
	kept() iter.Seq[api.Label]
}

// root keeps its object.
type root api.Root

func (r root) kept() iter.Seq[api.Label] {
	return func(yield func(api.Label) bool) { yield(r.Label) }
}

// generations keep an object each, the present one as well as all others.
type generations []api.Gen

func (g generations) kept() iter.Seq[api.Label] {
	return func(yield func(api.Label) bool) {
		for _, x := range g {
			if !yield(x.Label) {
				return
			}
		}
	}
}

// given is a label that is handed in.
type given api.Label

func (g given) kept() iter.Seq[api.Label] {
	return func(yield func(api.Label) bool) { yield(api.Label(g)) }
}

// keepersOf is all that keeps objects of a shelf alive.
func keepersOf(s *shelf.Shelf, extra []api.Label) []keeper {
	var out []keeper
	for _, r := range Roots(s) {
		out = append(out, root(r))
	}
	for _, p := range Profiles(s) {
		out = append(out, generations(p.Gens))
	}
	for _, l := range extra {
		out = append(out, given(l))
	}
	return out
}

// marks is labels, each of them once.
type marks map[api.Label]struct{}

// list is the labels that are marked, in order.
func (m marks) list() []api.Label {
	out := make([]api.Label, 0, len(m))
	for l := range m {
		out = append(out, l)
	}
	return label.Sort(out)
}

// keptOn marks what is kept alive by itself, of what is on the shelf.
func keptOn(s *shelf.Shelf, extra []api.Label) marks {
	m := marks{}
	for _, k := range keepersOf(s, extra) {
		for l := range k.kept() {
			if s.Has(l) {
				m[l] = struct{}{}
			}
		}
	}
	return m
}
