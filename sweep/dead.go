package sweep

import (
	"graft/api"
	"graft/graph"
	"graft/shelf"
)

// dead is the objects of a shelf that nothing keeps alive, by their places in order.
type dead struct {
	labels   []api.Label
	referred [][2]int // a place, and that of one that refers to it
	has      []int    // the number of the archive that each has
	archives []archive
}

// archive is bytes that objects share.
type archive struct {
	size  int
	users int // how many objects have it that have not been freed
}

// deadOn is what is dead on a shelf. All objects are looked at, as a live one may share its archive with a dead one.
func deadOn(s *shelf.Shelf, extra []api.Label) dead {
	all := s.List()
	d := dead{labels: without(all, Live(s, extra))}
	d.has = make([]int, len(d.labels))
	places := placesOf(d.labels)
	numbers := map[string]int{} // of the archives, by their bytes
	for _, l := range all {
		o, _ := s.Get(l)
		number := d.use(o.Ark, numbers)
		if place, isDead := places[l]; isDead {
			d.has[place] = number
			d.refer(place, o.Refs, places)
		}
	}
	return d
}

// without is labels in order, but for some of them.
func without(all, some []api.Label) []api.Label {
	m := marks{}
	for _, l := range all {
		m[l] = struct{}{}
	}
	for _, l := range some {
		delete(m, l)
	}
	return m.list()
}

// placesOf is where each of some labels stands.
func placesOf(labels []api.Label) map[api.Label]int {
	out := map[api.Label]int{}
	for i, l := range labels {
		out[l] = i
	}
	return out
}

// use notes that an object has an archive: the archive's number.
func (d *dead) use(data []byte, numbers map[string]int) int {
	number, there := numbers[string(data)]
	if !there {
		number = len(d.archives)
		numbers[string(data)] = number
		d.archives = append(d.archives, archive{size: len(data)})
	}
	d.archives[number].users++
	return number
}

// refer notes the references of a dead object to dead ones.
func (d *dead) refer(place int, refs []api.Label, places map[api.Label]int) {
	for _, l := range refs {
		if to, isDead := places[l]; isDead {
			d.referred = append(d.referred, [2]int{to, place})
		}
	}
}

// groups is the groups in the order in which they may go, by the places of their members. That order is a graph's in
// which each object needs those that refer to it: they go first, and the places rise as the labels do.
func (d *dead) groups() [][]int {
	out, _ := graph.Groups(api.Graph{N: len(d.labels), Edges: d.referred})
	return out
}

// labelsOf is the labels of a group.
func (d *dead) labelsOf(group []int) []api.Label {
	out := make([]api.Label, 0, len(group))
	for _, place := range group {
		out = append(out, d.labels[place])
	}
	return out
}

// free takes a group off its archives: how many bytes no other object has.
func (d *dead) free(group []int) int {
	freed := 0
	for _, place := range group {
		a := &d.archives[d.has[place]]
		a.users--
		if a.users == 0 {
			freed += a.size
		}
	}
	return freed
}
