package engine

import (
	"fmt"
	"slices"
	"strings"
	"testing"

	"graft/api"
	"graft/forge"
	"graft/journal"
	"graft/modulo"
	"graft/recipe"
	"graft/sweep"
)

// The store as a whole: recipes are added as texts, made, what they made is renamed, kept and swept.

// making is a recipe of mode 0 or 2.
func making(mode int, outputs string, args ...string) api.Recipe {
	r := api.Recipe{System: "any", Builder: "builtin:make", Args: args}
	for _, name := range strings.Fields(outputs) {
		o := api.Output{Name: name}
		if mode == 2 {
			o.Algo = "r:sha256"
		}
		r.Outputs, r.Env = append(r.Outputs, o), append(r.Env, api.Pair{Key: name})
	}
	return r
}

// bring adds a recipe as a text: its label; known has the sums of its inputs, and then its own.
func (w *world) bring(name string, r api.Recipe, known *[]api.Known) api.Label {
	w.t.Helper()
	r, e, n := modulo.Fill(name, r, *known)
	if e != api.OK {
		w.t.Fatalf("P7.2: %d, %d", e, n)
	}
	text, _, _ := recipe.Print(r)
	refs, _ := recipe.Refs(r)
	l := w.text(name+".recipe", text, refs...)
	if called, e := recipe.Call(name, r); called != l || e != api.OK {
		w.t.Fatalf("P6.9: %s, %d", showLabel(called), e)
	}
	sum, _, _ := modulo.Hash(name, r, *known)
	*known = append(*known, api.Known{Recipe: textOf(l), Sum: sum})
	return l
}

// sound holds W6 and W8 of a store.
func (w *world) sound(what string) {
	w.t.Helper()
	s := w.e.Shelf()
	hashes := map[api.Hash]api.Label{}
	for _, l := range s.List() {
		o, _ := s.Get(l)
		if had, is := hashes[l.Hash]; is {
			w.t.Fatalf("W8: %s: %s and %s have one hash part", what, showLabel(l), showLabel(had))
		}
		hashes[l.Hash] = l
		for _, ref := range o.Refs {
			x, e := s.Get(ref)
			if e != api.OK || o.Ca != api.Guest && x.Ca == api.Guest {
				w.t.Fatalf("W8: %s: %s refers to %s", what, showLabel(l), showLabel(ref))
			}
		}
		if out := w.e.Verify(l, 33); out.Err != api.OK {
			w.t.Fatalf("W6: %s: %s", what, show(out))
		}
	}
	for _, x := range s.Sames() {
		if !isOwn(s, x.New) {
			w.t.Fatalf("W8: %s: %s is renamed to %s", what, showLabel(x.Old), showLabel(x.New))
		}
	}
}

func TestWhole(t *testing.T) {
	w := newWorld(t)
	var known []api.Known
	source := w.text("source", "source")
	r := making(2, "doc out", "dir out", "file out/a ${out}", "file out/b ${doc}", "file doc see ${out} "+textOf(source))
	r.Sources = []string{textOf(source)}
	float := w.bring("float", r, &known)
	r = making(0, "dev out", "file out ${dev} "+textOf(source), "file dev ${out}")
	r.Sources = []string{textOf(source)}
	ring := w.bring("ring", r, &known)
	r = making(0, "out", "dir out", "file out/a "+modulo.Stand(textOf(ring), "dev"), "link out/b "+modulo.Stand(textOf(float), "out"), "file out/c ${out}")
	r.Inputs = []api.Input{{Recipe: textOf(float), Outputs: []string{"doc", "out"}}, {Recipe: textOf(ring), Outputs: []string{"dev"}}}
	slices.SortFunc(r.Inputs, func(a, b api.Input) int { return strings.Compare(a.Recipe, b.Recipe) })
	top := w.bring("top", r, &known)
	made, e := forge.Make(w.e.Shelf(), []api.Want{{Recipe: top}}, 3)
	if e != api.OK || len(made.Mades) != 1 || len(made.Ran) != 3 {
		t.Fatalf("P14.6: %d, %+v", e, made)
	}
	w.sound("made")
	guest := made.Mades[0].Label
	if o, _ := w.e.Read(guest); o.Ca != api.Guest || o.Maker != textOf(top) {
		t.Fatalf("P14.7: %s", showObject(o))
	}
	before, from := tellShelf(w.e.Shelf()), w.v.Count()
	news := w.rename(guest)
	w.sound("renamed")
	guests := 0
	for old, to := range news {
		if old != to {
			guests++
		}
	}
	if guests != 3 {
		t.Errorf("P15.5: %v", news)
	}
	after := tellShelf(w.e.Shelf())
	everyMoment(t, w.v, from, func(disk api.Disk, answered bool) string {
		state := tellShelf(mustOpen(t, journal.NewDevice(disk), wide).Shelf())
		if state != after && (answered || state != before) {
			t.Errorf("W7: a store between two: %s", state)
		}
		return state
	})
	// What was renamed is kept; recipes and guests are swept away.
	if e := sweep.Keep(w.e.Shelf(), "root", news[guest]); e != api.OK {
		t.Fatalf("P13.1: %d", e)
	}
	told, _ := w.e.Read(news[guest])
	if _, _, e := sweep.Collect(w.e.Shelf(), nil, 1<<62); e != api.OK {
		t.Fatalf("P13.9: %d", e)
	}
	w.sound("swept")
	if o, e := w.e.Read(news[guest]); e != api.OK || showObject(o) != showObject(told) {
		t.Errorf("W9: %s, %d", showObject(o), e)
	}
	if l, e := w.e.Lookup(guest); l != news[guest] || e != api.OK {
		t.Errorf("P15.6: %s, %d", showLabel(l), e)
	}
	if e := w.e.Shelf().Compact(); e != api.OK {
		t.Fatalf("P12.2: %d", e)
	}
	again := w.again(wide)
	again.sound("opened again")
	again.refuses("W5", func() api.Outcome { return again.e.Rewrite([]api.Label{news[guest]}, 2) }, w.e.Rewrite([]api.Label{news[guest]}, 9))
}

// W4: what two recipes make alike under other labels is renamed to one.
func TestMadeAlike(t *testing.T) {
	var news []api.Label
	w := newWorld(t)
	for i := range 3 {
		var known []api.Known
		r := making(0, "dev out", "file out ${dev}", "file dev ${out} x", fmt.Sprint("file tmp ", i))
		l := w.bring("r", r, &known)
		made, e := forge.Make(w.e.Shelf(), []api.Want{{Recipe: l, Outputs: []string{"out"}}}, 2)
		if e != api.OK {
			t.Fatalf("P14.6: %d", e)
		}
		news = append(news, w.rename(made.Mades[0].Label)[made.Mades[0].Label])
	}
	if news[0] != news[1] || news[1] != news[2] {
		t.Errorf("W4: %s", showLabels(news))
	}
	w.sound("made alike")
}
