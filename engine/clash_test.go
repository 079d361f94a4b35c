package engine

import (
	"fmt"
	"slices"
	"strings"
	"testing"

	"graft/api"
)

// fingerText is that of the new label of a guest that is renamed alone.
func fingerText(name string, data []byte, refs ...api.Label) []byte {
	return []byte(plainFinger(groupText(name, data, refs...), 0, name))
}

// groupText is that of a group of one that does not mention itself.
func groupText(name string, data []byte, refs ...api.Label) []byte {
	return plainGroupText([]plainMember{{label: api.Label{Name: name}, data: data, refs: refs}})
}

// P15.5, 8: something on the shelf has the hash part, under another name.
func TestClashOtherName(t *testing.T) {
	hi := holding(la, "hi")
	A := newWorld(t, hi).rename(la)[la]
	z := api.Label{Hash: A.Hash, Name: "z"}
	told := api.Outcome{Err: api.ErrClash, At: la, Other: z, First: fingerText("a", hi.Ark)}
	// A guest, beside the closure and in it.
	w := newWorld(t, hi, holding(z, "z"))
	w.denies("P15.5, 8: a guest beside it", told, la)
	w.denies("P15.5, 8: a guest in it", told, la, z)
	w = newWorld(t, holding(la, "hi"), holding(z, part(la), la))
	w.denies("P15.5, 8: a guest that leads to it", told, z)
	// Own ones, none of which is what it says: Verify refuses them, so there is no second text.
	for _, ca := range []api.Ca{api.ByText, api.BySource, api.ByGroup, api.ByFlat} {
		w = newWorld(t, hi)
		w.lay(api.Object{Label: z, Ark: file("z"), Ca: ca})
		w.denies(fmt.Sprint("P15.5, 8: own by ", ca), told, la)
	}
}

// P15.5, 8: the label itself is on the shelf, and is another thing.
func TestClashOtherThing(t *testing.T) {
	hi := holding(la, "hi")
	A := newWorld(t, hi).rename(la)[la]
	told := api.Outcome{Err: api.ErrClash, At: la, Other: A, First: fingerText("a", hi.Ark)}
	w := newWorld(t, hi, holding(A, "hi"))
	w.denies("P15.5, 8: a guest that came under that label", told, la)
	// It is in the closure, and is renamed to itself: the first that has the defect counts.
	first := told
	first.At = sorted(la, A)[0]
	w.denies("P15.5, 8: the guest itself", first, la, A)
	alone := told
	alone.At = A
	w.denies("P15.5, 8: the guest itself, alone", alone, A)
	w = newWorld(t, hi, holding(A, "another"))
	w.denies("P15.5, 8: a guest that holds another thing", told, la)
	for what, o := range map[string]api.Object{
		"another archive":    {Label: A, Ark: file("ho"), Ca: api.ByGroup},
		"another kind":       {Label: A, Ark: file("hi"), Ca: api.ByText},
		"another kind still": {Label: A, Ark: file("hi"), Ca: api.BySource},
		"flat":               {Label: A, Ark: file("hi"), Ca: api.ByFlat},
		"references":         {Label: A, Ark: file("hi"), Refs: []api.Label{lb}, Ca: api.ByGroup},
	} {
		w := newWorld(t, hi, holding(lb, "b"))
		w.lay(o)
		w.denies("P15.5, 8: "+what, told, la)
	}
	// One with a maker is as good.
	w = newWorld(t, hi)
	w.lay(api.Object{Label: A, Ark: file("hi"), Ca: api.ByGroup, Maker: textOf(lb)})
	if r := w.rename(la); r[la] != A {
		t.Errorf("P15.5: %v", r)
	}
	// Verify takes one that refers to itself without a mention: its group has the same text.
	w = newWorld(t, hi)
	w.lay(api.Object{Label: A, Ark: file("hi"), Refs: []api.Label{A}, Ca: api.ByGroup})
	if out := w.e.Verify(A, 3); out.Err != api.OK {
		t.Fatalf("P15.7: %s", show(out))
	}
	text := groupText("a", hi.Ark)
	w.denies("P15.5, 8: one group's text", api.Outcome{Err: api.ErrClash, At: la, Other: A, First: text, Second: text}, la)
}

// P15.5, 8: the first guest in order, whatever its ground.
func TestClashFirst(t *testing.T) {
	objects := []api.Object{holding(la, "1"), holding(lb, "2"), holding(lc, "3"+part(la), la)}
	r := newWorld(t, objects...).rename(labelsIn(objects)...)
	z := func(l api.Label) api.Object { return holding(api.Label{Hash: r[l].Hash, Name: "z"}, "z") }
	want := func(l api.Label, other api.Label, text []byte) api.Outcome {
		return api.Outcome{Err: api.ErrClash, At: l, Other: other, First: text}
	}
	one, two := fingerText("a", file("1")), fingerText("b", file("2"))
	three := fingerText("c", file("3"+part(r[la])), r[la])
	newWorld(t, append(objects, z(lb), z(lc))...).denies("P15.5, 8", want(lb, z(lb).Label, two), lc, lb)
	newWorld(t, append(objects, z(lc), holding(r[la], "x"))...).denies("P15.5, 8", want(la, r[la], one), lc, lb)
	newWorld(t, append(objects, z(lc), z(la))...).denies("P15.5, 8", want(la, z(la).Label, one), lc)
	newWorld(t, append(objects, z(lc))...).denies("P15.5, 8", want(lc, z(lc).Label, three), lc)
	// Guests that get one label: the first of them.
	a2 := named(200, "a")
	newWorld(t, append(objects, holding(a2, "1"), z(la))...).denies("P15.5, 8", want(la, z(la).Label, one), a2, la)
}

// prepared is a renaming whose names have been given.
func prepared(t *testing.T, w *world, roots ...api.Label) *renaming {
	t.Helper()
	r := &renaming{shelf: w.e.Shelf(), chunk: 3}
	for _, look := range r.defects(roots)[:7] {
		if out := look(); out.Err != api.OK {
			t.Fatalf("P15.5: %s", show(out))
		}
	}
	r.nameAll()
	return r
}

// by is an object's number.
func (w *renaming) by(l api.Label) int { return slices.Index(w.labels, l) }

// P15.5, 8: two guests get one hash part: as two texts with one sum would have it.
func TestClashAmongGuests(t *testing.T) {
	objects := []api.Object{holding(la, "1"), holding(lb, "2"), holding(lc, "3"), holding(named(9, "a"), "4"), holding(named(10, "a"), "1")}
	a2, a3 := named(9, "a"), named(10, "a")
	w := newWorld(t, objects...)
	finger := func(name, text string) []byte { return fingerText(name, file(text)) }
	asked := func(change func(r *renaming)) api.Outcome {
		r := prepared(t, w, labelsIn(objects)...)
		if out := r.first(r.clashing); out.Err != api.OK {
			t.Fatalf("P15.5, 8: %s", show(out))
		}
		change(r)
		r.follow()
		return r.first(r.clashing)
	}
	holds := func(what string, want api.Outcome, change func(r *renaming)) {
		t.Helper()
		want.Err = api.ErrClash
		if got := asked(change); show(got) != show(want) {
			t.Errorf("P15.5, 8: %s: %s\nwant %s", what, show(got), show(want))
		}
	}
	call := func(r *renaming, l api.Label, like api.Label, name string) api.Label {
		to := api.Label{Hash: r.objects[r.by(like)].name.Hash, Name: name}
		r.objects[r.by(l)].call(to)
		return to
	}
	B := newWorld(t, holding(lb, "2")).rename(lb)[lb]
	C := newWorld(t, holding(lc, "3")).rename(lc)[lc]
	// Another name.
	holds("another name", api.Outcome{At: lb, Other: api.Label{Hash: B.Hash, Name: "c"}, First: finger("b", "2"), Second: finger("c", "3")}, func(r *renaming) { call(r, lc, lb, "c") })
	holds("another name, the first", api.Outcome{At: lb, Other: api.Label{Hash: B.Hash, Name: "c"}, First: finger("b", "2"), Second: finger("c", "3")}, func(r *renaming) {
		call(r, lc, lb, "c")
		call(r, a2, lb, "a")
	})
	holds("the other way round", api.Outcome{At: lb, Other: C, First: finger("b", "2"), Second: finger("c", "3")}, func(r *renaming) { call(r, lb, lc, "b") })
	// The same label, another archive.
	holds("another archive", api.Outcome{At: la, Other: a2, First: finger("a", "1"), Second: finger("a", "4")}, func(r *renaming) { call(r, a2, la, "a") })
	// Another name counts ahead of another archive, though the guest with it comes later.
	asX := []byte(strings.TrimSuffix(string(finger("a", "1")), "a") + "x")
	holds("both", api.Outcome{At: la, Other: call(prepared(t, w, labelsIn(objects)...), a3, la, "x"), First: finger("a", "1"), Second: asX}, func(r *renaming) {
		call(r, a2, la, "a")
		call(r, a3, la, "x")
		r.objects[r.by(a3)].finger.Name = "x"
	})
	// The same finger: the groups' texts.
	holds("one finger", api.Outcome{At: la, Other: a2, First: groupText("a", file("1")), Second: groupText("a", file("4"))}, func(r *renaming) {
		call(r, a2, la, "a")
		r.objects[r.by(a2)].finger = r.objects[r.by(la)].finger
	})
	// The same archive, other references.
	holds("other references", api.Outcome{At: la, Other: a3, First: finger("a", "1"), Second: asX}, func(r *renaming) {
		r.objects[r.by(a3)].refs = []int{r.by(lb)}
		r.objects[r.by(a3)].finger.Name = "x"
	})
	holds("another archive, of a later guest", api.Outcome{At: lb, Other: a2, First: finger("b", "2"), Second: finger("a", "4")}, func(r *renaming) {
		call(r, a2, lb, "b")
	})
	// What is on the shelf counts ahead of what comes.
	text := ownText("t", "on the shelf")
	w.lay(text)
	holds("on the shelf", api.Outcome{At: lb, Other: text.Label, First: finger("b", "2"), Second: []byte(label2(plain{w.e.Shelf()}.content(text.Label)))}, func(r *renaming) {
		r.objects[r.by(lb)].call(api.Label{Hash: text.Label.Hash, Name: "b"})
		call(r, lc, lb, "c")
		call(r, a2, lb, "b")
	})
	// The first guest in order, though another one's ground is an earlier one.
	holds("the first", api.Outcome{At: la, Other: a2, First: finger("a", "1"), Second: finger("a", "4")}, func(r *renaming) {
		call(r, a2, la, "a")
		call(r, lc, lb, "c")
	})
}

func label2(finger string, _ []byte) string { return finger }

// P15.5, 8: an own object of the shelf that is what it says has the hash part: both texts are told.
func TestClashProved(t *testing.T) {
	w := newWorld(t, holding(la, "hi"), holding(lb, part(lb)+part(lc), lb, lc), holding(lc, part(lb), lb), holding(named(9, "d"), "single"))
	text := w.text("t", "text")
	refers := w.text("u", "see "+part(text), text)
	tree := w.tree("v", dir())
	flat := ownFlat("f", "flat")
	w.lay(flat)
	ring := w.rename(lb)
	d := w.rename(named(9, "d"))[named(9, "d")]
	p := plain{w.e.Shelf()}
	for _, l := range []api.Label{text, refers, tree, flat.Label, ring[lb], ring[lc], d} {
		finger, group := p.proof(l)
		if finger == "" {
			t.Fatalf("P15.7: %s", showLabel(l))
		}
		for _, name := range []string{"a", l.Name} {
			r := prepared(t, w, la)
			r.objects[0].call(api.Label{Hash: l.Hash, Name: name})
			r.follow()
			want := api.Outcome{Err: api.ErrClash, At: la, Other: l, First: fingerText("a", file("hi")), Second: []byte(finger)}
			if got := r.first(r.clashing); show(got) != show(want) {
				t.Errorf("P15.5, 8: %s\nwant %s", show(got), show(want))
			}
			if group == nil {
				continue
			}
			o, _ := w.e.Read(l)
			its, _ := verifier{w.e.Shelf(), 5}.prove(o)
			r.objects[0].finger = its.finger
			want.First, want.Second = groupText("a", file("hi")), group
			if got := r.first(r.clashing); show(got) != show(want) {
				t.Errorf("P15.5, 8: one finger: %s\nwant %s", show(got), show(want))
			}
		}
	}
	// One that refers to a guest is not what an own object is: Verify refuses it.
	guestly := ownText("g", "see "+part(la), la)
	w.lay(guestly)
	r := prepared(t, w, la)
	r.objects[0].call(guestly.Label)
	r.follow()
	want := api.Outcome{Err: api.ErrClash, At: la, Other: guestly.Label, First: fingerText("a", file("hi"))}
	if got := r.first(r.clashing); show(got) != show(want) {
		t.Errorf("P15.5, 8: %s\nwant %s", show(got), show(want))
	}
}

// P15.5, 8: the texts of a group with several members, as modulo.Group has them, whichever member is told of.
func TestClashGroups(t *testing.T) {
	own := ownText("o", "own")
	w := newWorld(t)
	w.lay(own)
	w.take(holding(la, "1"+part(lb)+part(lc), lb, lc), holding(lb, "2"+part(la)+part(own.Label), la, own.Label), holding(lc, "3"))
	r := prepared(t, w, la)
	C := r.objects[r.by(lc)].name
	members := []plainMember{
		{label: la, data: file("1" + part(lb) + part(C)), mentions: []plainMention{{fileAt + 1, lb}}, refs: []api.Label{C}},
		{label: lb, data: file("2" + part(la) + part(own.Label)), mentions: []plainMention{{fileAt + 1, la}}, refs: []api.Label{own.Label}},
	}
	text := plainGroupText(members)
	for i, l := range []api.Label{la, lb} {
		to := r.objects[r.by(l)].name
		if to != plainCall(plainFinger(text, i, l.Name), l.Name) {
			t.Errorf("P15.5: %s", showLabel(to))
		}
		w := w.again(wide)
		w.lay(api.Object{Label: to, Ark: file("x"), Ca: api.ByText})
		w.denies("P15.5, 8", api.Outcome{Err: api.ErrClash, At: l, Other: to, First: []byte(plainFinger(text, i, l.Name))}, la)
	}
	// With one finger for both members the groups' texts are told, though they are one group's.
	r.objects[r.by(lb)].call(r.objects[r.by(la)].name)
	r.objects[r.by(lb)].finger = r.objects[r.by(la)].finger
	r.follow()
	got := r.first(r.clashing)
	if got.At != la || got.Other != lb || string(got.First) != string(got.Second) || len(got.First) == 0 {
		t.Errorf("P15.5, 8: %s", show(got))
	}
}
