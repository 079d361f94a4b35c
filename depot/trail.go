package depot

import (
	"container/heap"
	"iter"

	"graft/api"
	"graft/label"
)

// trail is labels that are to be looked at, each of them once.
type trail struct {
	todo leastFirst
	seen map[api.Label]struct{}
}

func newTrail(roots []api.Label) *trail {
	t := &trail{seen: map[api.Label]struct{}{}}
	t.add(roots)
	return t
}

// add puts labels on a trail that have not been there.
func (t *trail) add(labels []api.Label) {
	for _, l := range labels {
		if _, seen := t.seen[l]; !seen {
			t.seen[l] = struct{}{}
			heap.Push(&t.todo, l)
		}
	}
}

// labels goes along a trail: always the least of what is on it next, what is added on the way too.
func (t *trail) labels() iter.Seq[api.Label] {
	return func(yield func(api.Label) bool) {
		for len(t.todo) > 0 {
			if !yield(heap.Pop(&t.todo).(api.Label)) {
				return
			}
		}
	}
}

// leastFirst is a heap of labels.
type leastFirst []api.Label

func (h leastFirst) Len() int           { return len(h) }
func (h leastFirst) Less(i, j int) bool { return label.Compare(h[i], h[j]) < 0 }
func (h leastFirst) Swap(i, j int)      { h[i], h[j] = h[j], h[i] }
func (h *leastFirst) Push(l any)        { *h = append(*h, l.(api.Label)) }

func (h *leastFirst) Pop() any {
	last := len(*h) - 1
	l := (*h)[last]
	*h = (*h)[:last]
	return l
}

// openFor is the depot that files are, for roots that must be printable.
func openFor(files []api.DepotFile, roots []api.Label) (*depot, api.Errno) {
	d, e, _ := open(files)
	if e != api.OK {
		return nil, e
	}
	for _, l := range roots {
		if e, _ := label.Check(l.Name); e != api.OK {
			return nil, e
		}
	}
	return d, api.OK
}

// reached is roots and all that good cards refer to from them onward, in order.
func (d *depot) reached(roots []api.Label) []api.Label {
	var out []api.Label
	t := newTrail(roots)
	for l := range t.labels() {
		out = append(out, l)
		if x, e := d.good(l); e == api.OK {
			t.add(x.object.Refs)
		}
	}
	return label.Sort(out)
}
