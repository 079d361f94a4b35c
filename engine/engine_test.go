package engine

import (
	"fmt"
	"slices"
	"testing"

	"graft/api"
	"graft/journal"
	"graft/shelf"
)

// P15.1: what shelf.Open answers, on devices of every kind; nothing is done with one that is refused.
func TestOpen(t *testing.T) {
	good := newWorld(t, holding(la, "a")).v.Disk()
	turned := func(at int) api.Disk {
		data := slices.Clone(good.Files[0])
		data[at] ^= 1
		return api.Disk{Files: [2][]byte{data}}
	}
	put := []byte{1, 0, 0, 0, 0}
	for what, disk := range map[string]api.Disk{
		"new": {}, "good": good, "no journal": {Files: [2][]byte{[]byte("x")}}, "no journal in file 1": {Files: [2][]byte{good.Files[0], []byte("xyz")}},
		"a turned head": turned(3), "a turned record": turned(60), "torn": {Files: [2][]byte{good.Files[0][:len(good.Files[0])-1]}}, "two of one generation": {Files: [2][]byte{good.Files[0], good.Files[0]}},
		"a base that is no shelf": journalOf(1, [][]byte{{9}}), "a batch that is no shelf": journalOf(5, nil, nil, [][]byte{{7, 1, 0, 0, 0, 'k'}}), "an ark that nobody takes": journalOf(1, nil, [][]byte{put}),
	} {
		for _, limit := range []int{-1, 0, 63, 64, 200, 1 << 20, api.MaxRoom, api.MaxRoom + 1} {
			v, other := journal.NewDevice(disk), journal.NewDevice(disk)
			e, f, a, b := Open(v, limit)
			s, g, c, d := shelf.Open(other, limit)
			if (e == nil) != (s == nil) || f != g || a != c || b != d {
				t.Errorf("P15.1: %s, %d: %v, %d, %d, %d, want %v, %d, %d, %d", what, limit, e != nil, f, a, b, s != nil, g, c, d)
			}
			if v.Count() != other.Count() || filesOf(v) != filesOf(other) {
				t.Errorf("P15.1: %s, %d: %d operations, want %d", what, limit, v.Count(), other.Count())
			}
			if e != nil && (e.Shelf() == nil || tellShelf(e.Shelf()) != tellShelf(s)) {
				t.Errorf("P15.1: %s, %d: another shelf", what, limit)
			}
		}
	}
	if e, f, a, b := Open(nil, 1<<20); e != nil || f != api.ErrArg || a != 0 || b != 0 {
		t.Errorf("P15.1: a nil device: %v, %d, %d, %d", e != nil, f, a, b)
	}
	e, f, a, b := Open(journal.NewDevice(journalOf(5, nil, nil, [][]byte{{7, 1, 0, 0, 0, 'k'}})), 1<<20)
	if e != nil || f != api.ErrState || a != 6 || b != 0 {
		t.Errorf("P15.1: a batch that is no shelf: %v, %d, %d, %d", e != nil, f, a, b)
	}
}

// P15.1: the shelf is the store itself, and the engine keeps nothing beside it.
func TestShelf(t *testing.T) {
	w := newWorld(t, holding(la, "a"))
	s := w.e.Shelf()
	if s == nil || s != w.e.Shelf() || !slices.Equal(s.List(), []api.Label{la}) {
		t.Fatal("P15.1: another shelf")
	}
	w.lay(holding(lb, part(la), la))
	r := w.rename(lb)
	if len(r) != 2 || !s.Has(r[lb]) {
		t.Errorf("P15.1: %v", r)
	}
	w.drop(r[lb])
	if _, e := w.e.Lookup(lb); e != api.ErrNone {
		t.Errorf("P15.6: %d", e)
	}
	if again := w.rename(lb); again[lb] != r[lb] {
		t.Errorf("P15.5: %v", again)
	}
	if e := s.Compact(); e != api.OK {
		t.Fatalf("P12.2: %d", e)
	}
	if l, e := w.e.Lookup(lb); l != r[lb] || e != api.OK {
		t.Errorf("P15.6: %s, %d", showLabel(l), e)
	}
}

// P15.6: own objects, guests renamed and not, swept away, and what was never there.
func TestLookup(t *testing.T) {
	w := newWorld(t, holding(la, "a"), holding(lb, "b"), holding(lc, "c"))
	text, tree := w.text("t", "text"), w.tree("d", dir())
	r := w.rename(la, lb)
	w.drop(lb)
	flat := ownFlat("f", "flat")
	w.lay(flat)
	for _, x := range []struct {
		what    string
		l, want api.Label
		e       api.Errno
	}{
		{"a text", text, text, api.OK}, {"a tree", tree, tree, api.OK}, {"flat", flat.Label, flat.Label, api.OK}, {"a new one", r[la], r[la], api.OK},
		{"a guest that was renamed", la, r[la], api.OK}, {"one that was renamed and swept away", lb, r[lb], api.OK}, {"a guest that was not renamed", lc, api.Label{}, api.ErrNone},
		{"what is not there", named(9, "x"), api.Label{}, api.ErrNone}, {"another name", api.Label{Hash: text.Hash, Name: "x"}, api.Label{}, api.ErrNone}, {"none", api.Label{}, api.Label{}, api.ErrNone},
	} {
		before := w.state()
		if l, e := w.e.Lookup(x.l); l != x.want || e != x.e || w.state() != before {
			t.Errorf("P15.6: %s: %s, %d", x.what, showLabel(l), e)
		}
	}
	// An own object is what it is, whatever the table says of it.
	w.apply(api.Step{Kind: api.StepSame, Same: api.Same{Old: text, New: tree}}, api.Step{Kind: api.StepSame, Same: api.Same{Old: lc, New: text}})
	if l, e := w.e.Lookup(text); l != text || e != api.OK {
		t.Errorf("P15.6: %s, %d", showLabel(l), e)
	}
	if l, e := w.e.Lookup(lc); l != text || e != api.OK {
		t.Errorf("P15.6: %s, %d", showLabel(l), e)
	}
	w.refuses("P15.5, 10: of guests alone", func() api.Outcome { return w.e.Rewrite([]api.Label{text}, 2) }, api.Outcome{Map: []api.Same{{Old: text, New: text}}})
}

// P15.6: Read is shelf.Get.
func TestRead(t *testing.T) {
	made := guest(lb, file("b"), la, lb)
	made.Maker = textOf(lc)
	w := newWorld(t, holding(la, "a"), made)
	text := w.text("t", "text")
	for _, l := range []api.Label{la, lb, lc, text, {}, {Hash: la.Hash, Name: "x"}} {
		got, e := w.e.Read(l)
		want, f := w.e.Shelf().Get(l)
		if showObject(got) != showObject(want) || e != f {
			t.Errorf("P15.6: %s, %d, want %s, %d", showObject(got), e, showObject(want), f)
		}
	}
}

// P15.8, and an engine that Open has not made.
func TestNilEngine(t *testing.T) {
	for _, e := range []*Engine{nil, {}} {
		for _, chunk := range []int{-1, 0, 1} {
			for what, o := range map[string]api.Outcome{
				"Import": e.Import([]api.Object{{}}, chunk), "AddText": e.AddText("", nil, nil), "AddText of a name": e.AddText("t", nil, nil), "AddTree": e.AddTree("", api.Node{}),
				"AddTree of a tree": e.AddTree("d", dir()), "Rewrite": e.Rewrite([]api.Label{la}, chunk), "Verify": e.Verify(la, chunk), "Import of none": e.Import(nil, chunk),
			} {
				if show(o) != show(api.Outcome{}) {
					t.Errorf("P15.8: %s: %s", what, show(o))
				}
			}
		}
		if l, f := e.Lookup(la); l != (api.Label{}) || f != api.OK {
			t.Errorf("P15.8: Lookup: %s, %d", showLabel(l), f)
		}
		if o, f := e.Read(la); showObject(o) != showObject(api.Object{}) || f != api.OK {
			t.Errorf("P15.8: Read: %s, %d", showObject(o), f)
		}
		if e.Shelf() != nil {
			t.Error("P15.8: a shelf")
		}
	}
}

// ErrArg ahead of all else.
func TestChunk(t *testing.T) {
	w := newWorld(t, holding(la, "a", lb), holding(lb, "b"))
	no := named(9, "no")
	for _, chunk := range []int{0, -1, -7, -1 << 63} {
		for what, call := range map[string]func() api.Outcome{
			"Import of too many":      func() api.Outcome { return w.e.Import(make([]api.Object, api.MaxObjects+1), chunk) },
			"Import of a wrong one":   func() api.Outcome { return w.e.Import(make([]api.Object, 1), chunk) },
			"Import of none":          func() api.Outcome { return w.e.Import(nil, chunk) },
			"Import of a right one":   func() api.Outcome { return w.e.Import([]api.Object{holding(lc, "c")}, chunk) },
			"Rewrite of none":         func() api.Outcome { return w.e.Rewrite(nil, chunk) },
			"Rewrite of what is not":  func() api.Outcome { return w.e.Rewrite([]api.Label{no}, chunk) },
			"Rewrite with a defect":   func() api.Outcome { return w.e.Rewrite([]api.Label{la}, chunk) },
			"Rewrite of a right one":  func() api.Outcome { return w.e.Rewrite([]api.Label{lb}, chunk) },
			"Verify of what is not":   func() api.Outcome { return w.e.Verify(no, chunk) },
			"Verify of a guest":       func() api.Outcome { return w.e.Verify(la, chunk) },
			"Verify of another guest": func() api.Outcome { return w.e.Verify(lb, chunk) },
		} {
			w.refuses(fmt.Sprint(what, ", chunk ", chunk), call, api.Outcome{Err: api.ErrArg})
		}
	}
	w.refuses("P15.5: no roots", func() api.Outcome { return w.e.Rewrite(nil, 1) }, api.Outcome{})
	w.refuses("P15.5: no roots", func() api.Outcome { return w.e.Rewrite([]api.Label{}, 1) }, api.Outcome{})
}

// tour is calls of every kind, each in pieces of that length: what they answer, and the journal.
func tour(t *testing.T, chunk int) (string, string) {
	w := worldOf(t, api.Disk{}, wide)
	out := ""
	tell := func(o api.Outcome) { out += show(o) + "\n" }
	own := w.text("own", "own")
	big := arkOf(dir(entry("a", program(part(la)+part(own))), entry("b", link("x/"+part(lb))), entry("c", fileNode(string(make([]byte, 300))))))
	objects := []api.Object{guest(la, big, la, lb, own), holding(lb, part(lc)+part(lb)+part(lc), lb, lc), holding(lc, "hi"), holding(named(9, "c"), "hi"), holding(named(8, "d"), part(la)+part(named(9, "c")), la, named(9, "c"))}
	tell(w.e.Import(objects[1:], chunk))
	tell(w.e.Import(objects, chunk))
	broken := guest(named(7, "x"), slices.Concat(big[:len(big)-3], []byte("xyz")))
	tell(w.e.Import([]api.Object{broken}, chunk))
	for _, s := range []side{'4'} {
		for _, make := range s.kinds()[2:] {
			d := make(t)
			some := w.again(wide)
			d.lay(some)
			tell(some.e.Rewrite(slices.Concat(d.roots, labelsIn(objects)), chunk))
			out += filesOf(some.v) + "\n"
		}
	}
	tell(w.e.Rewrite(labelsIn(objects), chunk))
	for _, l := range w.e.Shelf().List() {
		tell(w.e.Verify(l, chunk))
	}
	for _, o := range []api.Object{ownText("x", "x"), ownFlat("x", "x"), ownTree("x", program("x"))} {
		w.lay(o)
		tell(w.e.Verify(o.Label, chunk))
		o.Label.Name = "y"
		o.Label.Hash[0]++
		w.lay(o)
		tell(w.e.Verify(o.Label, chunk))
	}
	return out, filesOf(w.v)
}

// W2: pieces of each length, as long as an archive and longer: the same answers and the same journal.
func TestPieces(t *testing.T) {
	answers, files := tour(t, 1)
	for _, chunk := range []int{2, 3, 7, 8, 31, 32, 33, 64, 119, 120, 121, 500, 1 << 20, 1<<63 - 1} {
		a, f := tour(t, chunk)
		if a != answers || f != files {
			t.Errorf("W2: chunk %d: %s\nwant %s", chunk, a, answers)
		}
	}
}

// Two engines in turns have nothing in common.
func TestTwoEngines(t *testing.T) {
	one, two := newWorld(t), newWorld(t)
	alone := newWorld(t)
	one.take(holding(la, part(lb), lb), holding(lb, "1"))
	two.take(holding(la, part(lb)+part(la), la, lb), holding(lb, "2"))
	alone.take(holding(la, part(lb), lb), holding(lb, "1"))
	a := one.e.Rewrite([]api.Label{lb}, 3)
	b := two.e.Rewrite([]api.Label{la}, 3)
	c := alone.e.Rewrite([]api.Label{lb}, 3)
	two.drop(tableOf(b.Map)[la])
	d := one.e.Rewrite([]api.Label{la}, 3)
	if show(a) != show(c) || show(d) != show(alone.e.Rewrite([]api.Label{la}, 3)) || filesOf(one.v) != filesOf(alone.v) {
		t.Errorf("%s\n%s", show(a), show(d))
	}
	if one.bytes(tableOf(d.Map)[lb]) != "1" || two.bytes(tableOf(b.Map)[lb]) != "2" {
		t.Error("two engines have something in common")
	}
}

// W5: once more, old or new, with more roots, on a full journal and on one without numbers: not a byte changes.
func TestAgain(t *testing.T) {
	source := sourceOf(5)
	for _, plan := range plans {
		objects, _ := closureOf(source, plan)
		w := newWorld(t, objects...)
		before := w.e.Shelf().Last()
		out := w.e.Rewrite(labelsIn(objects), 4)
		if out.Err != api.OK || w.e.Shelf().Last() != before+1 {
			t.Fatalf("P15.5: %s: %s, %d transactions", plan, show(out), w.e.Shelf().Last()-before)
		}
		var olds, news []api.Label
		identity := api.Outcome{}
		for _, x := range out.Map {
			olds, news = append(olds, x.Old), append(news, x.New)
		}
		for _, l := range sorted(news...) {
			identity.Map = append(identity.Map, api.Same{Old: l, New: l})
		}
		all := slices.Concat(news, olds, news)
		both := api.Outcome{Map: slices.Concat(out.Map, identity.Map)}
		slices.SortFunc(both.Map, func(a, b api.Same) int { return labelOrder(a.Old, b.Old) })
		for what, x := range map[string]*world{"as it is": w, "full": w.full(), "no number": w.last(), "opened again": w.again(wide)} {
			x.refuses("W5: "+what+", the old ones", func() api.Outcome { return x.e.Rewrite(olds, 9) }, out)
			x.refuses("W5: "+what+", the new ones", func() api.Outcome { return x.e.Rewrite(news, 9) }, identity)
			x.refuses("W5: "+what+", all", func() api.Outcome { return x.e.Rewrite(all, 9) }, both)
			x.refuses("W5: "+what+", one", func() api.Outcome { return api.Outcome{Err: x.e.Rewrite(olds[:1], 9).Err} }, api.Outcome{})
		}
		// One same that is gone with its object is made again, and its object too.
		w.apply(dropAll(w, news)...)
		if again := w.e.Rewrite(olds, 2); show(again) != show(out) {
			t.Errorf("P15.5: %s", show(again))
		}
	}
}

func labelOrder(a, b api.Label) int {
	if a == b {
		return 0
	}
	if sorted(a, b)[0] == a {
		return -1
	}
	return 1
}

// dropAll is steps that take labels off the shelf.
func dropAll(w *world, labels []api.Label) []api.Step {
	var out []api.Step
	for _, l := range sorted(labels...) {
		if w.e.Shelf().Has(l) {
			out = append(out, api.Step{Kind: api.StepDrop, Label: l})
		}
	}
	return out
}

// P15.5, 11: what is in the one transaction: puts in the order of new labels, each once, then sames in the order of old ones; those
// that are there already are left out.
func TestTransaction(t *testing.T) {
	objects := []api.Object{holding(la, "1"), holding(lb, "2"), holding(lc, "1"+part(la), la), holding(named(9, "a"), "1")}
	w := newWorld(t, objects...)
	w.rename(lb)
	w.lay(api.Object{Label: groupOfOne("a", file("1")), Ark: file("1"), Ca: api.ByGroup}) // without a same
	copied := w.again(wide)
	out := w.e.Rewrite(labelsIn(objects), 4)
	r := tableOf(out.Map)
	steps := []api.Step{
		{Kind: api.StepPut, Object: api.Object{Label: r[lc], Refs: []api.Label{r[la]}, Ark: file("1" + part(r[la])), Ca: api.ByGroup}},
		{Kind: api.StepSame, Same: api.Same{Old: la, New: r[la]}}, {Kind: api.StepSame, Same: api.Same{Old: lc, New: r[lc]}}, {Kind: api.StepSame, Same: api.Same{Old: named(9, "a"), New: r[la]}},
	}
	copied.apply(steps...)
	if out.Err != api.OK || filesOf(copied.v) != filesOf(w.v) {
		t.Errorf("P15.5, 11: %s", show(out))
	}
}
