package depot

import (
	"slices"

	"graft/api"
	"graft/ark"
	"graft/digest"
	"graft/label"
	"graft/modulo"
	"graft/shelf"
)

// names holds own objects against their labels: objects that a depot tells of, which may lead to others on a shelf.
type names struct {
	shelf  *shelf.Shelf            // nil, if there is none
	cas    map[api.Label]api.Ca    // of all objects, and of those on the shelf that were asked for
	groups map[api.Label]api.Label // what the members of groups are to be called
}

// newNames is the names of objects, no two of which have one hash part.
func newNames(objects []api.Object, s *shelf.Shelf) *names {
	n := &names{shelf: s, cas: map[api.Label]api.Ca{}, groups: map[api.Label]api.Label{}}
	for _, o := range objects {
		n.cas[o.Label] = o.Ca
	}
	for _, group := range groupsOf(objects) {
		n.nameGroup(group)
	}
	return n
}

// isWrong says whether an object is an own one, and not what its label says.
func (n *names) isWrong(o api.Object) bool {
	switch {
	case o.Ca == api.Guest:
		return false
	case o.Maker != "" || slices.ContainsFunc(o.Refs, n.isGuest):
		return true
	}
	l, ok := n.call(o)
	return !ok || l != o.Label
}

// isGuest says whether a label is known to be a guest's.
func (n *names) isGuest(l api.Label) bool {
	ca, known := n.cas[l]
	if !known && n.shelf.Has(l) {
		o, _ := n.shelf.Get(l)
		ca, known = o.Ca, true
		n.cas[l] = ca // a look at the shelf copies the archive
	}
	return known && ca == api.Guest
}

// call is what an own object is to be called by what it holds; false if there is no such label.
func (n *names) call(o api.Object) (api.Label, bool) {
	switch o.Ca {
	case api.ByText:
		data, ok := fileOf(o.Ark)
		l, e := label.Text(o.Label.Name, data, o.Refs)
		return l, ok && e == api.OK
	case api.BySource:
		l, e := label.Source(o.Label.Name, digest.Of(o.Ark), nil, false)
		return l, len(o.Refs) == 0 && e == api.OK
	case api.ByFlat:
		data, ok := fileOf(o.Ark)
		l, e := label.Fixed(o.Label.Name, digest.Of(data), true)
		return l, ok && len(o.Refs) == 0 && e == api.OK
	}
	l, ok := n.groups[o.Label]
	return l, ok
}

// fileOf is the bytes of an archive's one file that is not executable; false if it has none.
func fileOf(data []byte) ([]byte, bool) {
	tree, _, _ := ark.Parse(data) // a depot's archives were proved
	return tree.Data, tree.Kind == api.KindFile && !tree.Exec
}

// nameGroup finds what the members of a group are to be called, if they can be called after it.
func (n *names) nameGroup(group []api.Object) {
	byOther := func(o api.Object) bool { return o.Ca != api.ByGroup }
	if len(group) > api.MaxGroup || slices.ContainsFunc(group, byOther) { // mentions are not looked for in vain
		return
	}
	members, ok := membersOf(group)
	if !ok {
		return
	}
	naming, e, _ := modulo.Group(members) // it refuses two of one name
	if e != api.OK {
		return
	}
	for i, o := range group {
		n.groups[o.Label] = naming.Labels[i]
	}
}

// membersOf is a group as it is named; false if mentions overlap.
func membersOf(group []api.Object) ([]api.Member, bool) {
	hashes := make([]api.Hash, len(group))
	for i, o := range group {
		hashes[i] = o.Label.Hash
	}
	out := make([]api.Member, len(group))
	for i, o := range group {
		_, hits, e, _ := modulo.Mask(o.Ark, hashes)
		if e != api.OK {
			return nil, false
		}
		out[i] = api.Member{Name: o.Label.Name, Ark: o.Ark, Hits: hits, Refs: refsOut(o, group)}
	}
	return out, true
}

// refsOut is an object's references out of its group.
func refsOut(o api.Object, group []api.Object) []api.Label {
	isIn := func(l api.Label) bool {
		return slices.ContainsFunc(group, func(x api.Object) bool { return x.Label == l })
	}
	return slices.DeleteFunc(slices.Clone(o.Refs), isIn)
}
