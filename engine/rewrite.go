package engine

import (
	"slices"

	"graft/api"
	"graft/label"
	"graft/shelf"
)

// Rewrite renames what these roots lead to, in pieces of so many bytes.
func (e *Engine) Rewrite(roots []api.Label, chunk int) api.Outcome {
	switch {
	case e.none():
		return api.Outcome{}
	case chunk < 1:
		return api.Outcome{Err: api.ErrArg}
	}
	w := &renaming{shelf: e.shelf, chunk: chunk}
	if out := firstDefect(w.defects(roots)...); out.Err != api.OK {
		return out
	}
	return api.Outcome{Map: w.table()}
}

// renaming is a Rewrite under way.
type renaming struct {
	shelf    *shelf.Shelf
	chunk    int
	labels   []api.Label // the closure, in order
	objects  []object    // by the numbers of their labels
	archives []archive
	groups   [][]int            // what is referred to comes first
	shares   map[api.Hash][]int // of each new hash part the guests that get it
}

// object is one of a closure.
type object struct {
	guest bool
	refs  []int // rising
	ark   int   // its archive's number
	group int

	name    api.Label  // the new label; of an own object it is the old one
	part    string     // its hash part
	finger  api.Finger // of a guest, what that label is made of
	newRefs []api.Label
}

// defects is the closures that look for the defects of P15.5, in order: each does first what the ones ahead of it let it do.
func (w *renaming) defects(roots []api.Label) []func() api.Outcome {
	return []func() api.Outcome{
		func() api.Outcome { return w.gather(roots) },
		w.tooMany,
		func() api.Outcome { w.read(); return w.first(w.mismatched) },
		func() api.Outcome { return w.first(w.inName) },
		func() api.Outcome { return w.first(w.crossing) },
		func() api.Outcome { w.findGroups(); return w.first(w.crowded) },
		func() api.Outcome { return w.first(w.twin) },
		func() api.Outcome { w.nameAll(); return w.first(w.clashing) },
		func() api.Outcome { w.findStrays(); return w.first(w.stray) },
		func() api.Outcome { return w.first(w.tabled) },
		w.apply,
	}
}

// first asks each object in order: the first defect that there is.
func (w *renaming) first(ask func(i int) api.Outcome) api.Outcome {
	return firstOf(len(w.objects), ask)
}

// gather finds the closure; or tells of a root that is not there.
func (w *renaming) gather(roots []api.Label) api.Outcome {
	labels, f, at := w.shelf.Closure(roots)
	if f != api.OK {
		return api.Outcome{Err: f, At: roots[at], Place: at}
	}
	w.labels = labels
	return api.Outcome{}
}

func (w *renaming) tooMany() api.Outcome {
	if n := len(w.labels); n > api.MaxClosure {
		return api.Outcome{Err: api.ErrMany, Place: n}
	}
	return api.Outcome{}
}

// read takes the closure's objects off the shelf, and looks for mentions. An archive is kept and looked through once, however many
// objects have it.
func (w *renaming) read() {
	finder := finderOf(w.labels)
	numbers := make(map[api.Label]int, len(w.labels))
	for i, l := range w.labels {
		numbers[l] = i
	}
	arks := map[string]int{} // the archives' numbers by their bytes
	for _, l := range w.labels {
		o, _ := w.shelf.Get(l)
		number, there := arks[string(o.Ark)]
		if !there {
			number = len(w.archives)
			arks[string(o.Ark)] = number
			w.archives = append(w.archives, newArchive(o.Ark, finder, w.chunk))
		}
		x := object{guest: o.Ca == api.Guest, ark: number}
		x.call(l)
		for _, ref := range o.Refs {
			x.refs = append(x.refs, numbers[ref])
		}
		w.objects = append(w.objects, x)
	}
}

// archiveOf is the archive of an object.
func (w *renaming) archiveOf(i int) archive {
	return w.archives[w.objects[i].ark]
}

// mismatched tells of a label that an object mentions or refers to, but not both.
func (w *renaming) mismatched(i int) api.Outcome {
	refs, firsts := w.objects[i].refs, w.archiveOf(i).firsts
	for len(refs) > 0 && len(firsts) > 0 && refs[0] == firsts[0].Which {
		refs, firsts = refs[1:], firsts[1:]
	}
	out := api.Outcome{Err: api.ErrScan, At: w.labels[i]}
	switch {
	case len(firsts) > 0 && (len(refs) == 0 || firsts[0].Which < refs[0]):
		out.Other, out.Place = w.labels[firsts[0].Which], firsts[0].At
	case len(refs) > 0:
		out.Other = w.labels[refs[0]]
	default:
		return api.Outcome{}
	}
	return out
}

// inName tells of a mention within an entry's name.
func (w *renaming) inName(i int) api.Outcome {
	return w.placed(api.ErrInName, i, w.archiveOf(i).inName)
}

// crossing tells of two mentions that overlap.
func (w *renaming) crossing(i int) api.Outcome {
	return w.placed(api.ErrCross, i, w.archiveOf(i).cross)
}

// stray tells of a hash part in a new archive where there is no mention.
func (w *renaming) stray(i int) api.Outcome {
	return w.placed(api.ErrStray, i, w.archiveOf(i).stray)
}

// placed is an object's defect at a place; none, if the place is 0.
func (w *renaming) placed(f api.Errno, i, place int) api.Outcome {
	if place == 0 {
		return api.Outcome{}
	}
	return api.Outcome{Err: f, At: w.labels[i], Place: place}
}

// tabled tells of a guest that was renamed to another label before.
func (w *renaming) tabled(i int) api.Outcome {
	if l, there := w.same(i); there && l != w.objects[i].name {
		return api.Outcome{Err: api.ErrTable, At: w.labels[i], Other: l}
	}
	return api.Outcome{}
}

// same is what a guest was renamed to; false of what was not, and of own objects.
func (w *renaming) same(i int) (api.Label, bool) {
	if !w.objects[i].guest {
		return api.Label{}, false
	}
	l, f := w.shelf.Same(w.labels[i])
	return l, f == api.OK
}

// apply is the one transaction, unless there is nothing to do.
func (w *renaming) apply() api.Outcome {
	steps := slices.Concat(w.puts(), w.sames())
	if len(steps) == 0 {
		return api.Outcome{}
	}
	f, _ := w.shelf.Apply(steps)
	return api.Outcome{Err: f}
}

// puts is the steps that bring the new objects, in order.
func (w *renaming) puts() []api.Step {
	var steps []api.Step
	for _, guests := range w.shares {
		x := w.objects[guests[0]]
		if !w.shelf.Has(x.name) {
			o := api.Object{Label: x.name, Refs: x.newRefs, Ark: w.archives[x.ark].data, Ca: api.ByGroup}
			steps = append(steps, api.Step{Kind: api.StepPut, Object: o})
		}
	}
	slices.SortFunc(steps, func(a, b api.Step) int { return label.Compare(a.Object.Label, b.Object.Label) })
	return steps
}

// sames is the steps that say what guests were renamed to.
func (w *renaming) sames() []api.Step {
	var steps []api.Step
	for i, x := range w.objects {
		if _, there := w.same(i); x.guest && !there {
			steps = append(steps, api.Step{Kind: api.StepSame, Same: api.Same{Old: w.labels[i], New: x.name}})
		}
	}
	return steps
}

// table is what each object is called now.
func (w *renaming) table() []api.Same {
	var out []api.Same
	for i, x := range w.objects {
		out = append(out, api.Same{Old: w.labels[i], New: x.name})
	}
	return out
}
