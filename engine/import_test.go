package engine

import (
	"fmt"
	"slices"
	"strings"
	"testing"

	"graft/api"
	"graft/ark"
	"graft/label"
)

func (w *world) importing(objects ...api.Object) func() api.Outcome {
	return func() api.Outcome { return w.e.Import(objects, 3) }
}

// many is so many labels in order.
func many(n int) []api.Label {
	var out []api.Label
	for i := range n {
		out = append(out, numbered(i, "n"))
	}
	return label.Sort(out)
}

// guests is a small guest for each label.
func guests(labels []api.Label) []api.Object {
	var out []api.Object
	for _, l := range labels {
		out = append(out, holding(l, "x"))
	}
	return out
}

// P15.2, 1: each ground of ErrObject alone, at each place of the list, and ahead of what is wrong behind it.
func TestImportObject(t *testing.T) {
	ground := map[string]func(o *api.Object){
		"no name":             func(o *api.Object) { o.Label.Name = "" },
		"a name with a point": func(o *api.Object) { o.Label.Name = ".c" },
		"a name of 212 bytes": func(o *api.Object) { o.Label.Name = strings.Repeat("n", 212) },
		"a name with a blank": func(o *api.Object) { o.Label.Name = "a b" },
		"257 references":      func(o *api.Object) { o.Refs = many(257) },
		"an unnamed ref":      func(o *api.Object) { o.Refs = []api.Label{lb, {Hash: lc.Hash}} },
		"a ref of 212 bytes":  func(o *api.Object) { o.Refs = []api.Label{{Hash: lc.Hash, Name: strings.Repeat("n", 212)}} },
		"refs out of order":   func(o *api.Object) { o.Refs = []api.Label{lb, la} },
		"the last two so":     func(o *api.Object) { o.Refs = []api.Label{la, lc, lb} },
		"a ref twice":         func(o *api.Object) { o.Refs = []api.Label{la, la} },
		"no maker's text":     func(o *api.Object) { o.Maker = "m" },
		"a maker's base":      func(o *api.Object) { o.Maker = strings.TrimPrefix(textOf(la), api.Store) },
		"a maker and a way":   func(o *api.Object) { o.Maker = textOf(la) + "/x" },
		"by text":             func(o *api.Object) { o.Ca = api.ByText },
		"by source":           func(o *api.Object) { o.Ca = api.BySource },
		"by group":            func(o *api.Object) { o.Ca = api.ByGroup },
		"flat":                func(o *api.Object) { o.Ca = api.ByFlat },
		"by nothing":          func(o *api.Object) { o.Ca = 255 },
	}
	for what, spoil := range ground {
		w := newWorld(t, holding(la, "a"), holding(lb, "b"), holding(lc, "c"))
		right := holding(named(8, "r"), "right", la)
		wrong := holding(named(9, "w"), "wrong", lb)
		spoil(&wrong)
		said := api.Outcome{Err: api.ErrObject, At: wrong.Label}
		w.refuses(what, w.importing(wrong), said)
		said.Place = 1
		w.refuses(what, w.importing(right, wrong, right), said)
		w.refuses(what+", twice", w.importing(right, wrong, wrong), said)
		// Behind an archive that is none, ahead of one.
		broken := guest(named(5, "k"), file("k")[:119])
		w.refuses(what+" and an archive ahead", w.importing(right, broken, wrong), api.Outcome{Err: api.ErrArk, At: broken.Label, Place: 119})
		w.refuses(what+" and an archive behind", w.importing(right, wrong, broken), said)
		wrong.Ark = nil
		w.refuses(what+" and its own archive", w.importing(right, wrong), said)
		// Ahead of all that is asked of the whole.
		dangles := holding(named(6, "d"), "d", named(7, "no"))
		w.refuses(what+" and a reference", w.importing(dangles, wrong), said)
		w.refuses(what+" and another content", w.importing(holding(la, "other"), wrong), said)
	}
}

// P15.2, 1: the archive's errors, with ark's places.
func TestImportArk(t *testing.T) {
	w := newWorld(t, holding(la, "a"))
	right := file("right")
	turned := slices.Clone(right)
	turned[19] = 1
	for what, data := range map[string][]byte{
		"no bytes": nil, "one byte": right[:1], "all but one": right[:len(right)-1], "one more": append(slices.Clone(right), 0), "padding": turned,
		"too large": slices.Concat(right[:88], []byte{0, 0, 16, 0, 0, 0, 0, 0}, make([]byte, 1<<20)), "no words": []byte(strings.Repeat("x", 200)),
	} {
		_, e, at := ark.Parse(data)
		if e == api.OK {
			t.Fatalf("%s is an archive", what)
		}
		o := guest(lb, data, la)
		for _, chunk := range []int{1, 2, 7, 31, 32, 33, len(data) + 1, 1 << 40} {
			w.refuses(what, func() api.Outcome { return w.e.Import([]api.Object{holding(lc, "c"), o}, chunk) }, api.Outcome{Err: api.ErrArk, At: lb, Place: at})
		}
		o.Refs = []api.Label{named(9, "no")}
		w.refuses(what+" and a reference", w.importing(o), api.Outcome{Err: api.ErrArk, At: lb, Place: at})
		w.refuses(what+" and a reference ahead", w.importing(holding(lc, "c", named(9, "no")), o), api.Outcome{Err: api.ErrArk, At: lb, Place: at})
	}
}

// P15.2, 2: references on the shelf, among the objects, ahead, behind, its own, and nowhere.
func TestImportDangling(t *testing.T) {
	no := named(9, "no")
	w := newWorld(t, holding(la, "a"))
	w.refuses("a reference that is nowhere", w.importing(holding(lb, "b", no)), api.Outcome{Err: api.ErrDangling, At: lb, Other: no})
	w.refuses("the first one", w.importing(holding(lb, "b", la, lc, no)), api.Outcome{Err: api.ErrDangling, At: lb, Other: lc})
	w.refuses("the first object", w.importing(holding(la, "a"), holding(lb, "b", no), holding(lc, "c", named(8, "no"))), api.Outcome{Err: api.ErrDangling, At: lb, Other: no, Place: 1})
	w.refuses("another name", w.importing(holding(lb, "b", api.Label{Hash: la.Hash, Name: "b"})), api.Outcome{Err: api.ErrDangling, At: lb, Other: api.Label{Hash: la.Hash, Name: "b"}})
	w.refuses("one that is there with a clash ahead", w.importing(holding(api.Label{Hash: la.Hash, Name: "b"}, "b"), holding(lb, "b", no)), api.Outcome{Err: api.ErrDangling, At: lb, Other: no, Place: 1})
	w.refuses("one that is there with other bytes ahead", w.importing(holding(la, "b"), holding(lb, "b", no)), api.Outcome{Err: api.ErrDangling, At: lb, Other: no, Place: 1})
	w.take(holding(lc, "c", lb, lc), holding(lb, "b", la, lc, named(5, "e")), holding(named(5, "e"), "e"))
	if !slices.Equal(w.refs(lb), sorted(la, lc, named(5, "e"))) {
		t.Errorf("P15.2: %s", showLabels(w.refs(lb)))
	}
}

// P15.2, 3: what shelf.Apply refuses.
func TestImportApply(t *testing.T) {
	w := newWorld(t, holding(la, "a"), guest(lb, file("b"), la))
	own := w.text("t", "t")
	b := holding(lb, "b", la)
	other := func(change func(o *api.Object)) api.Object { o := b; change(&o); return o }
	for what, o := range map[string]api.Object{
		"another archive":         other(func(o *api.Object) { o.Ark = file("c") }),
		"no references":           other(func(o *api.Object) { o.Refs = nil }),
		"more references":         other(func(o *api.Object) { o.Refs = sorted(la, lb) }),
		"a maker":                 other(func(o *api.Object) { o.Maker = textOf(lc) }),
		"an own object's label":   holding(own, "t"),
		"what came ahead of it":   holding(lc, "other"),
		"its own label, with ref": guest(lc, file("c"), lc),
	} {
		w.refuses(what, w.importing(holding(lc, "c"), o), api.Outcome{Err: api.ErrThere, At: o.Label, Place: 1})
		w.refuses(what, w.importing(holding(lc, "c"), b, o, holding(named(2, "x"), "x")), api.Outcome{Err: api.ErrThere, At: o.Label, Place: 2})
	}
	clash := api.Label{Hash: lb.Hash, Name: "x"}
	w.refuses("a clash", w.importing(holding(clash, "x")), api.Outcome{Err: api.ErrClash, At: clash})
	w.refuses("a clash among them", w.importing(holding(lc, "c"), holding(api.Label{Hash: lc.Hash, Name: "x"}, "x")), api.Outcome{Err: api.ErrClash, At: api.Label{Hash: lc.Hash, Name: "x"}, Place: 1})
	// No room, and no number.
	full := w.full()
	full.refuses("no room", full.importing(b, holding(lc, "c")), api.Outcome{Err: api.ErrFull, Place: 2})
	full.refuses("no room, there already", full.importing(b, holding(la, "a")), api.Outcome{})
	full.refuses("no room, and a clash", full.importing(holding(clash, "x")), api.Outcome{Err: api.ErrClash, At: clash})
	last := w.last()
	last.refuses("no number", last.importing(holding(lc, "c"), b, b), api.Outcome{Err: api.ErrEnd, Place: 3})
	last.refuses("no number, there already", last.importing(b), api.Outcome{})
}

// P15.2: what is there already makes no transaction; one that is new makes one.
func TestImportThere(t *testing.T) {
	w := newWorld(t)
	w.refuses("no objects", w.importing(), api.Outcome{})
	made := guest(lb, file("b"), lb, la)
	made.Maker = textOf(lc)
	a := holding(la, "a")
	count := w.e.Shelf().Last()
	w.take(made, a, made, a)
	if w.e.Shelf().Last() != count+1 {
		t.Errorf("P15.2: %d transactions", w.e.Shelf().Last()-count)
	}
	for _, l := range []api.Label{la, lb} {
		want := map[api.Label]api.Object{la: a, lb: made}[l]
		if o, e := w.e.Read(l); e != api.OK || showObject(o) != showObject(want) {
			t.Errorf("P15.2: %s, %d", showObject(o), e)
		}
	}
	w.refuses("all there", w.importing(made, a, a), api.Outcome{})
	w.refuses("one there", w.importing(a), api.Outcome{})
	w.take(a, holding(lc, "c"), made)
	if w.e.Shelf().Last() != count+2 {
		t.Errorf("P15.2: %d transactions", w.e.Shelf().Last()-count)
	}
	w.take(holding(named(7, "x"), "x"), a)
	if w.e.Shelf().Last() != count+3 || len(w.e.Shelf().List()) != 4 {
		t.Errorf("P15.2: %d transactions", w.e.Shelf().Last()-count)
	}
}

// P15.2: MaxObjects, and one more: in one call, and on the shelf.
func TestImportMost(t *testing.T) {
	labels := many(api.MaxObjects)
	objects := guests(labels)
	w := newWorld(t)
	over := append(slices.Clone(objects), api.Object{})
	w.refuses("4097 objects", w.importing(over...), api.Outcome{Err: api.ErrLong})
	w.refuses("4097 objects, in no pieces", func() api.Outcome { return w.e.Import(over, 0) }, api.Outcome{Err: api.ErrArg})
	w.take(objects...)
	if n := w.e.Shelf().Stat().Objects; n != api.MaxObjects {
		t.Fatalf("P15.2: %d objects", n)
	}
	w.refuses("all of them once more", w.importing(objects...), api.Outcome{})
	one := holding(la, "one more")
	w.refuses("one more on the shelf", w.importing(objects[5], objects[6], one), api.Outcome{Err: api.ErrFull, At: la, Place: 2})
}

// P15.2: 256 references are taken.
func TestImportRefs(t *testing.T) {
	labels := many(256)
	w := newWorld(t, append(guests(labels), guest(named(1, "r"), file("r"), labels...))...)
	if len(w.refs(named(1, "r"))) != 256 {
		t.Errorf("P15.2: %d references", len(w.refs(named(1, "r"))))
	}
}

// Objects by chance, wrong in one way or two, held against the plain reading.
func TestImportBy(t *testing.T) {
	source := sourceOf(2)
	seen := map[api.Errno]int{}
	for range 600 {
		b := newBoth(t, holding(la, "a"), holding(lb, "b", la))
		for range 4 {
			var objects []api.Object
			for range source.IntN(4) {
				l := pick(source, la, lb, lc, named(4, "d"), api.Label{Hash: lc.Hash, Name: "other"}, named(5, "e"))
				o := holding(l, pick(source, "a", "b", "c"))
				for range source.IntN(3) {
					o.Refs = append(o.Refs, pick(source, la, lb, lc, named(4, "d")))
				}
				if source.IntN(4) > 0 {
					o.Refs = label.Sort(o.Refs)
				}
				switch source.IntN(16) {
				case 0:
					o.Label.Name = pick(source, "", ".", "a/b")
				case 1:
					o.Ark = o.Ark[:source.IntN(len(o.Ark))]
				case 2:
					o.Ark = slices.Clone(o.Ark)
					o.Ark[source.IntN(len(o.Ark))] ^= 1
				case 3:
					o.Maker = pick(source, "m", textOf(la), textOf(lb))
				case 4:
					o.Ca = api.Ca(source.IntN(6))
				}
				objects = append(objects, o)
			}
			out := b.take(objects, pick(source, 0, 1, 3, 1000))
			seen[out.Err]++
			b.take(objects, 2)
		}
	}
	for _, e := range []api.Errno{api.OK, api.ErrArg, api.ErrObject, api.ErrArk, api.ErrDangling, api.ErrClash, api.ErrThere} {
		if seen[e] < 10 {
			t.Errorf("%d: %d times", e, seen[e])
		}
	}
	t.Log(fmt.Sprint(seen))
}
