package depot

import (
	"slices"

	"graft/api"
	"graft/card"
	"graft/label"
	"graft/shelf"
)

// pulling is a Pull under way.
type pulling struct {
	depot   *depot
	shelf   *shelf.Shelf
	keys    []api.Key
	objects []api.Object // that are to come
}

// gather looks at labels one by one, and at what their cards refer to: the objects, in order; or the first defect and its label.
func (p *pulling) gather(roots []api.Label) (api.Errno, api.Label) {
	t := newTrail(roots)
	for l := range t.labels() {
		if p.shelf.Has(l) {
			continue
		}
		o, e := p.look(l)
		if e != api.OK {
			return e, l
		}
		p.objects = append(p.objects, o)
		t.add(o.Refs)
	}
	slices.SortFunc(p.objects, func(a, b api.Object) int { return label.Compare(a.Label, b.Label) })
	return api.OK, api.Label{}
}

// look is the object that the depot has for a label; or the first defect.
func (p *pulling) look(l api.Label) (api.Object, api.Errno) {
	x, e := p.depot.good(l)
	if e != api.OK {
		return api.Object{}, e
	}
	if !isTrusted(x.card, p.keys) {
		return api.Object{}, api.ErrTrust
	}
	return p.depot.object(x)
}

// isTrusted says whether a card is vouched for, if that is asked for.
func isTrusted(c api.Card, keys []api.Key) bool {
	return len(keys) == 0 || card.Proves(c, keys)
}

// wrong tells of the first object that is not what its label says.
func (p *pulling) wrong() (api.Errno, api.Label) {
	n := newNames(p.objects, p.shelf)
	for _, o := range p.objects {
		if n.isWrong(o) {
			return api.ErrWrong, o.Label
		}
	}
	return api.OK, api.Label{}
}

// apply is the one transaction, unless there is nothing to do; or the error and the label of the object that it is about.
func (p *pulling) apply() (api.Errno, api.Label) {
	if len(p.objects) == 0 {
		return api.OK, api.Label{}
	}
	steps := make([]api.Step, len(p.objects))
	for i, o := range p.objects {
		steps[i] = api.Step{Kind: api.StepPut, Object: o}
	}
	e, at := p.shelf.Apply(steps)
	if e == api.OK || at >= len(p.objects) {
		return e, api.Label{}
	}
	return e, p.objects[at].Label
}

// labels is those of the objects that came, in order.
func (p *pulling) labels() []api.Label {
	out := make([]api.Label, len(p.objects))
	for i, o := range p.objects {
		out[i] = o.Label
	}
	return out
}
