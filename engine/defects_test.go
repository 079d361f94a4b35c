package engine

import (
	"fmt"
	"slices"
	"testing"

	"graft/api"
)

// Each of the defects of P15.5 alone, and each two of them at once: on both sides of one another by their labels.

// defect is a part of a store that has one defect.
type defect struct {
	objects []api.Object   // guests that are to be imported
	prepare func(w *world) // what is done ahead of that
	roots   []api.Label
	want    api.Outcome
}

// side is labels that are all less or all greater than those of the other sides.
type side byte

func (s side) label(k int, name string) api.Label {
	return digited(string([]byte{byte(s)})+part(numbered(1000*int(s)+k, ""))[1:], name)
}

// ring is so many guests, each of which mentions the next one.
func (s side) ring(n int, name func(i int) string) []api.Object {
	var out []api.Object
	for i := range n {
		next := s.label((i+1)%n, name((i+1)%n))
		out = append(out, holding(s.label(i, name(i)), part(next), next))
	}
	return out
}

func labelsIn(objects []api.Object) []api.Label {
	var out []api.Label
	for _, o := range objects {
		out = append(out, o.Label)
	}
	return sorted(out...)
}

func (s side) scan(*testing.T) defect {
	p, q := s.label(1, "p"), s.label(2, "q")
	return defect{objects: []api.Object{holding(p, "hi", q), holding(q, "hi")}, roots: []api.Label{p}, want: api.Outcome{Err: api.ErrScan, At: p, Other: q}}
}

func (s side) inName(*testing.T) defect {
	p, q := s.label(1, "p"), s.label(2, "q")
	data := arkOf(dir(entry("a", fileNode(part(q))), entry("b"+part(q)+"c", fileNode(""))))
	at := placeOf(data, "b"+part(q)) + 1
	return defect{objects: []api.Object{guest(p, data, q), holding(q, "hi")}, roots: []api.Label{p}, want: api.Outcome{Err: api.ErrInName, At: p, Place: at}}
}

func (s side) cross(*testing.T) defect {
	p := s.label(1, "p")
	q := digited(string([]byte{byte(s)})+"aaaaaaaaaaaaaaaaaaaaabbbbbbbbbb", "q")
	r := digited("bbbbbbbbbb"+"dddddddddddddddddddddd", "r")
	return defect{objects: []api.Object{holding(p, part(q)+"dddddddddddddddddddddd", q, r), holding(q, "hi"), holding(r, "hi")}, roots: []api.Label{p},
		want: api.Outcome{Err: api.ErrCross, At: p, Place: fileAt + 22}}
}

func (s side) many(*testing.T) defect {
	n := 65 + int(s)%3
	objects := s.ring(n, func(i int) string { return fmt.Sprint("n", i) })
	return defect{objects: objects, roots: []api.Label{objects[7].Label}, want: api.Outcome{Err: api.ErrMany, At: labelsIn(objects)[0], Place: n}}
}

func (s side) twins(*testing.T) defect {
	names := []string{"a", "b", "c", "b", "c"}
	objects := s.ring(5, func(i int) string { return names[i] })
	labels := slices.DeleteFunc(labelsIn(objects), func(l api.Label) bool { return l.Name == "a" })
	other := labels[slices.IndexFunc(labels[1:], func(l api.Label) bool { return l.Name == labels[0].Name })+1]
	return defect{objects: objects, roots: []api.Label{objects[0].Label}, want: api.Outcome{Err: api.ErrTwins, At: labels[0], Other: other}}
}

func (s side) clash(t *testing.T) defect {
	p := s.label(1, "p")
	o := holding(p, "clash by "+string([]byte{byte(s)}))
	w := newWorld(t, o)
	r := w.rename(p)[p]
	z := api.Label{Hash: r.Hash, Name: "z"}
	x, _ := w.e.Read(r)
	text := plainFinger(plainGroupText([]plainMember{{label: r, data: x.Ark}}), 0, "p")
	return defect{objects: []api.Object{o, holding(z, "z")}, roots: []api.Label{p}, want: api.Outcome{Err: api.ErrClash, At: p, Other: z, First: []byte(text)}}
}

func (s side) stray(t *testing.T) defect {
	p, q := s.label(1, "p"), s.label(2, "q")
	o := holding(p, "stray by "+string([]byte{byte(s)}))
	r := newWorld(t, o).rename(p)[p]
	return defect{objects: []api.Object{o, holding(q, "it is "+part(r))}, roots: []api.Label{p, q}, want: api.Outcome{Err: api.ErrStray, At: q, Place: fileAt + 6}}
}

func (s side) table(t *testing.T) defect {
	p := s.label(1, "p")
	old := holding(p, "table by "+string([]byte{byte(s)}))
	r := newWorld(t, old).rename(p)[p]
	prepare := func(w *world) {
		w.take(old)
		w.rename(p)
		w.drop(p)
	}
	return defect{prepare: prepare, objects: []api.Object{holding(p, "other")}, roots: []api.Label{p}, want: api.Outcome{Err: api.ErrTable, At: p, Other: r}}
}

func (s side) great(*testing.T) defect {
	var objects []api.Object
	for i := range api.MaxClosure + 1 {
		objects = append(objects, holding(s.label(10+i, "g"), "g"))
	}
	return defect{objects: objects, roots: labelsIn(objects), want: api.Outcome{Err: api.ErrMany, Place: -1}} // so many, and what is beside it
}

func (s side) none(*testing.T) defect {
	no := s.label(3, "no")
	return defect{roots: []api.Label{no}, want: api.Outcome{Err: api.ErrNone, At: no, Place: -1}}
}

// kinds is makers of the defects, in order, but for that of the journal.
func (s side) kinds() []func(*testing.T) defect {
	return []func(*testing.T) defect{s.none, s.great, s.scan, s.inName, s.cross, s.many, s.twins, s.clash, s.stray, s.table}
}

// lay puts a defect into a store.
func (d defect) lay(w *world) {
	w.t.Helper()
	if d.prepare != nil {
		d.prepare(w)
	}
	w.take(d.objects...)
}

func TestDefectsAlone(t *testing.T) {
	for n, make := range side('5').kinds() {
		d := make(t)
		w := newWorld(t, holding(la, "beside"))
		d.lay(w)
		want := d.want
		switch want.Err {
		case api.ErrNone:
			want.Place = 0
		case api.ErrMany:
			want.Place = max(want.Place, len(d.objects))
		}
		what := fmt.Sprint("P15.5, ", n+1)
		w.denies(what, want, d.roots...)
		if n == 0 {
			want.Place = 2
		}
		if n != 1 {
			w.denies(what+", twice", want, slices.Concat([]api.Label{la, la}, d.roots, d.roots)...)
		}
		full, last := w.full(), w.last()
		full.refuses(what+", no room", func() api.Outcome { return full.e.Rewrite(slices.Concat([]api.Label{la, la}, d.roots), 3) }, beside(want, n, 1))
		last.refuses(what+", no number", func() api.Outcome { return last.e.Rewrite(slices.Concat([]api.Label{la, la}, d.roots), 3) }, beside(want, n, 1))
	}
}

// beside is what is told of defect n if so many objects stand beside it in the closure.
func beside(want api.Outcome, n, more int) api.Outcome {
	if n == 1 {
		want.Place += more
	}
	return want
}

func TestDefectsTwoAtOnce(t *testing.T) {
	for _, sides := range [][2]side{{'2', '7'}, {'7', '2'}} {
		for i, first := range sides[0].kinds() {
			for k, second := range sides[1].kinds()[i:] {
				if k+i == 1 && i == 1 {
					continue // two closures that are too great are one
				}
				a, b := first(t), second(t)
				what := fmt.Sprintf("P15.5, %d and %d", i+1, i+k+1)
				w := newWorld(t)
				b.lay(w)
				a.lay(w)
				want := a.want
				roots := slices.Concat(b.roots, a.roots)
				closure, _, _ := w.e.Shelf().Closure(slices.DeleteFunc(slices.Clone(roots), func(l api.Label) bool { return l.Name == "no" }))
				switch {
				case i == 0:
					// The first root that is not there, not the least.
					want.Place = slices.IndexFunc(roots, func(l api.Label) bool { return l.Name == "no" })
					want.At = roots[want.Place]
				case i == 1:
					want.Place = len(closure)
				case k == 0 && sides[1] < sides[0]:
					want = b.want
				}
				w.denies(what, want, roots...)
				if i == 0 {
					continue
				}
				w.denies(what+", the other way round", want, slices.Concat(a.roots, b.roots)...)
			}
		}
	}
}

// P15.5, 11: ErrFull and ErrEnd, and nothing else is told; then it goes well where there is room.
func TestDefectsJournal(t *testing.T) {
	w := newWorld(t, holding(la, part(lb), lb), holding(lb, "hi"))
	full, last := w.full(), w.last()
	full.denies("P15.5, 11: no room", api.Outcome{Err: api.ErrFull}, la)
	last.denies("P15.5, 11: no number", api.Outcome{Err: api.ErrEnd}, la)
	// Room for all but one byte, and for all.
	r := w.again(wide)
	r.rename(la)
	size := r.e.Shelf().Stat().Journal
	less := w.again(size - 1)
	less.denies("P15.5, 11: a byte too little", api.Outcome{Err: api.ErrFull}, la)
	just := w.again(size)
	just.rename(la)
	if filesOf(just.v) != filesOf(r.v) {
		t.Error("P15.5, 11: another journal")
	}
}

// P15.5, 11: a full shelf, by objects and by sames.
func TestDefectsShelf(t *testing.T) {
	w := newWorld(t, append(guests(many(api.MaxObjects-2)), holding(la, "a"))...)
	w.rename(la)
	w.take() // nothing
	w.denies("P15.5, 11: objects", api.Outcome{Err: api.ErrFull}, many(1)...)
	w.refuses("P15.5: there already", func() api.Outcome { return w.e.Rewrite([]api.Label{la}, 1) }, w.e.Rewrite([]api.Label{la}, 1))

	w = newWorld(t, holding(la, "a"), holding(lb, "b"), holding(lc, "b"))
	var steps []api.Step
	for i := range api.MaxSames - 1 {
		steps = append(steps, api.Step{Kind: api.StepSame, Same: api.Same{Old: numbered(i, "s"), New: la}})
	}
	w.apply(steps...)
	w.denies("P15.5, 11: two sames", api.Outcome{Err: api.ErrFull}, la, lb)
	w.rename(la)
	w.denies("P15.5, 11: one same", api.Outcome{Err: api.ErrFull}, lb)
	w.refuses("P15.5: there already", func() api.Outcome { return w.e.Rewrite([]api.Label{la}, 1) }, w.e.Rewrite([]api.Label{la}, 1))
}
