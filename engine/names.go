package engine

import (
	"slices"

	"graft/api"
	"graft/graph"
	"graft/label"
	"graft/modulo"
	"graft/sieve"
)

// findGroups finds which guests make groups. Own objects lead to no guest, so that they stand alone here changes none.
func (w *renaming) findGroups() {
	g := api.Graph{N: len(w.objects)}
	for i, x := range w.objects {
		if !x.guest {
			continue
		}
		for _, to := range x.refs {
			g.Edges = append(g.Edges, [2]int{i, to})
		}
	}
	w.groups, _ = graph.Groups(g) // a closure has neither too many objects nor too many references
	for n, group := range w.groups {
		for _, i := range group {
			w.objects[i].group = n
		}
	}
}

// groupOf is the group of an object, by rising numbers.
func (w *renaming) groupOf(i int) []int {
	return w.groups[w.objects[i].group]
}

// crowded tells of a group with too many members.
func (w *renaming) crowded(i int) api.Outcome {
	if n := len(w.groupOf(i)); n > api.MaxGroup {
		return api.Outcome{Err: api.ErrMany, At: w.labels[i], Place: n}
	}
	return api.Outcome{}
}

// twin tells of another member of the group with the same name.
func (w *renaming) twin(i int) api.Outcome {
	for _, k := range w.groupOf(i) {
		if k != i && w.labels[k].Name == w.labels[i].Name {
			return api.Outcome{Err: api.ErrTwins, At: w.labels[i], Other: w.labels[k]}
		}
	}
	return api.Outcome{}
}

// nameAll gives all guests their new labels, group by group, from what is referred to upward.
func (w *renaming) nameAll() {
	for _, group := range w.groups {
		if w.objects[group[0]].guest {
			w.nameGroup(group)
		}
	}
	w.follow()
}

// follow lays down what follows from the new labels: new references and archives, and which guests get one hash part.
func (w *renaming) follow() {
	w.shares = map[api.Hash][]int{}
	for i := range w.objects {
		x := &w.objects[i]
		x.newRefs = w.newNames(x.refs)
		if x.guest {
			w.shares[x.name.Hash] = append(w.shares[x.name.Hash], i)
		}
	}
	for _, a := range w.archives {
		w.refresh(a)
	}
}

// refresh writes into an archive, at each mention, the hash part that is that object's by now.
func (w *renaming) refresh(a archive) {
	for _, h := range a.hits {
		copy(a.data[h.At:], w.objects[h.Which].part)
	}
}

// nameGroup names a group of guests, those that it refers to having been named.
func (w *renaming) nameGroup(group []int) {
	for _, i := range group {
		w.refresh(w.archiveOf(i))
	}
	members := w.members(group)
	n, _, _ := modulo.Group(members) // of the defects that were looked for none is left that it would refuse
	for m, i := range group {
		x := &w.objects[i]
		x.finger = fingerOf(members, m, n.Sum)
		x.call(n.Labels[m])
	}
}

// call gives an object its new label.
func (x *object) call(l api.Label) {
	x.name, x.part = l, partOf(l)
}

// members is a group as it is named.
func (w *renaming) members(group []int) []api.Member {
	out := make([]api.Member, len(group))
	for m, i := range group {
		out[m] = w.member(i, group)
	}
	return out
}

// member is an object of a group as it is named: the mentions of members are told, all others stand in its archive.
func (w *renaming) member(i int, group []int) api.Member {
	a := w.archiveOf(i)
	m := api.Member{Name: w.labels[i].Name, Ark: a.data}
	for _, h := range a.hits {
		if which, in := slices.BinarySearch(group, h.Which); in {
			m.Hits = append(m.Hits, api.Hit{At: h.At, Which: which})
		}
	}
	m.Refs = w.newNames(slices.DeleteFunc(slices.Clone(w.objects[i].refs), func(to int) bool {
		_, in := slices.BinarySearch(group, to)
		return in
	}))
	return m
}

// newNames is the new labels of objects, in order.
func (w *renaming) newNames(numbers []int) []api.Label {
	out := make([]api.Label, len(numbers))
	for k, i := range numbers {
		out[k] = w.objects[i].name
	}
	return label.Sort(out)
}

// fingerOf is what the label of a group's member is made of; the sum is the group's.
func fingerOf(members []api.Member, which int, sum api.Sum) api.Finger {
	f := api.Finger{Kind: api.FingerMember, Inner: sum, Name: members[which].Name}
	for _, m := range members {
		if m.Name < f.Name {
			f.Index++
		}
	}
	return f
}

// findStrays looks for hash parts in the new archives, old ones and new ones, where there is no mention.
func (w *renaming) findStrays() {
	all := slices.Clone(w.labels)
	for _, x := range w.objects {
		all = append(all, x.name)
	}
	finder := finderOf(label.Sort(all)) // two of them that had one hash part would have been told as a clash
	for n := range w.archives {
		w.archives[n].findStray(finder, w.chunk)
	}
}

func (a *archive) findStray(finder *sieve.Sieve, chunk int) {
	for _, h := range scan(finder, a.data, chunk) {
		if i := hitFrom(a.hits, h.At); i == len(a.hits) || a.hits[i].At != h.At {
			a.stray = h.At
			return
		}
	}
}
