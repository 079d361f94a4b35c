package forge

import (
	"fmt"
	"slices"
	"strings"
	"testing"

	"graft/api"
	"graft/label"
	"graft/modulo"
)

// planned holds what Plan answers, by the package and by the plain reading.
func (w *world) planned(what string, want []api.Label, asked ...api.Want) {
	w.t.Helper()
	was := markOf(w)
	if l, e, at := Plan(w.s, asked); e != api.OK || at != (api.Label{}) || !slices.Equal(l, want) {
		w.t.Errorf("%s: Plan = %s, want %s", what, toldPlan(l, e, at), showLabels(want))
	}
	if l, e, at, _ := plainPlan(w.s, asked); e != api.OK || !slices.Equal(l, want) {
		w.t.Errorf("%s: the plain reading = %s, want %s", what, toldPlan(l, e, at), showLabels(want))
	}
	unchanged(w.t, what, w, was)
}

// What is made, made in part, not made: in each mode.
func TestPlan(t *testing.T) {
	w := newWorld(t)
	guests := w.lay("g", recipeOf(0, "doc out", "file out 1", "file doc 2"))
	floats := w.lay("f", recipeOf(2, "doc out", "file out 1", "file doc 2"))
	fixed := w.lay("x", flat("abc", "file out abc"))
	w.planned("P14.4: none", nil)
	for _, l := range []api.Label{guests, floats, fixed} {
		w.planned("P14.4", []api.Label{l}, want(l))
		w.planned("P14.4: twice", []api.Label{l}, want(l), want(l, "out"), want(l, "out", "out"))
		w.planned("P14.4: one output", []api.Label{l}, want(l, "out"))
	}
	w.planned("P14.4: all", label.Sort([]api.Label{guests, floats, fixed}), wants(fixed, guests, floats, guests)...)
	made := w.make(wants(guests, floats, fixed)...) // doc and out of each, in turn
	w.planned("P14.8", nil, wants(guests, floats, fixed)...)
	for i, l := range []api.Label{guests, floats} {
		w.drop(made[2*i])
		w.planned("P14.4: doc is gone", []api.Label{l}, want(l))
		w.planned("P14.4: doc is gone", []api.Label{l}, want(l, "doc"))
		w.planned("P14.4: out is there", nil, want(l, "out"))
		w.planned("P14.4: by another want", []api.Label{l}, want(l, "out"), want(l, "doc"))
	}
	w.drop(made[4])
	w.planned("P14.4: fixed", []api.Label{fixed}, want(fixed))
}

// What an input lacks that is asked for, and what it lacks beside.
func TestPlanOfInputs(t *testing.T) {
	for mode := 0; mode <= 2; mode += 2 {
		w := newWorld(t)
		b := w.lay("b", recipeOf(mode, "doc out", "file out 1", "file doc 2"))
		a := w.lay("a", asking(recipeOf(mode, "out", "file out 3", "need "+stand(b, "out")), b, "out"))
		top := w.lay("t", asking(recipeOf(mode, "out", "file out 4"), a, "out"))
		w.planned("P14.4", []api.Label{b, a, top}, want(top))
		made := w.make(want(b), want(a))
		w.planned("P14.4: inputs are made", []api.Label{top}, want(top))
		w.drop(made[0]) // b's doc, for which nobody asks
		w.planned("P14.4: what nobody asks for", []api.Label{top}, want(top))
		w.planned("P14.4: but a want", label.Sort([]api.Label{b}), want(b))
		// A recipe that is made needs nothing.
		w.planned("P14.4: made, its input is not", nil, want(a))
		w.planned("P14.4: both", orderOf(w, b, top), want(top), want(b))
		w.drop(made[1]) // b's out
		w.planned("P14.4: made, its input is gone", nil, want(a))
		w.planned("P14.4: made, its input is gone", []api.Label{top}, want(top))
		w.drop(made[2])
		w.planned("P14.4: all but the first", []api.Label{b, a, top}, want(top))
	}
}

// orderOf is recipes that do not need each other, in order.
func orderOf(w *world, l ...api.Label) []api.Label { return label.Sort(l) }

// The order is that of the recipes that are to be done alone: an edge over one that is made has no part in it.
func TestPlanOrder(t *testing.T) {
	w := newWorld(t)
	mid := w.lay("m", float("file out m"))
	var lows []api.Label
	for i := range 12 {
		lows = append(lows, w.lay("l", asking(float(fmt.Sprint("file out ", i)), mid, "out")))
	}
	free := w.lay("f", float("file out f"))
	asked := append(wants(lows...), want(free))
	first := append(label.Sort([]api.Label{mid, free}), label.Sort(lows)...)
	if label.Compare(mid, free) > 0 {
		first = append([]api.Label{free}, append([]api.Label{mid}, label.Sort(lows)...)...)
	}
	got, e, _ := Plan(w.s, asked)
	plain, _, _, _ := plainPlan(w.s, asked)
	if e != api.OK || !slices.Equal(got, plain) || got[len(got)-1] != plain[len(plain)-1] || len(got) != len(first) {
		t.Errorf("P14.4: %s, want %s", showLabels(got), showLabels(plain))
	}
	w.make(want(mid))
	w.planned("P14.4: mid is made", label.Sort(append(slices.Clone(lows), free)), asked...)
	// An edge is there also where what is asked for is made, if the recipe is to be done for another output.
	two := w.lay("t", recipeOf(2, "doc out", "file out 1", "file doc 2"))
	_, r := w.sorted(true, two, func(i int) api.Recipe { return asking(float(fmt.Sprint("file out ", i)), two, "out") })
	over := w.lay("x", r)
	made := w.make(want(two))
	w.drop(made[0])
	w.planned("P14.4: only doc is missing", []api.Label{over}, want(over))
	w.planned("P14.4: an edge all the same", []api.Label{two, over}, want(over), want(two, "doc"))
}

// A recipe whose Check is not OK: the first in the plan, if it is to be done.
func TestPlanChecks(t *testing.T) {
	w := newWorld(t)
	bad := w.lay("b", float("dir out", "no step"))
	other := float("file out x")
	other.Builder = "other"
	foreign := w.lay("c", other)
	strange := float("nonsense", "dir")
	strange.System = "linux"
	alien := w.lay("d", strange)
	fine := w.lay("e", float("file out x"))
	for _, c := range []struct {
		l    api.Label
		e    api.Errno
		step int
	}{{bad, api.ErrStep, 1}, {foreign, api.ErrBuilder, 0}, {alien, api.ErrBuilder, 0}} {
		for _, asked := range [][]api.Want{wants(c.l), wants(fine, c.l), {want(c.l, "out"), want(fine)}} {
			if l, e, at := Plan(w.s, asked); e != c.e || at != c.l || len(l) > 0 {
				t.Errorf("P14.4: %s", toldPlan(l, e, at))
			}
			w.refuse("P14.6: a recipe that can't be run", c.e, c.l, c.step, nil, asked...)
		}
		over := w.lay("o", asking(float("file out x"), c.l, "out"))
		w.refuse("P14.6: its input can't be run", c.e, c.l, c.step, nil, want(over))
		worse := w.lay("w", asking(float("x"), c.l, "out"))
		w.refuse("P14.6: neither can be run", c.e, c.l, c.step, nil, want(worse))
		// Resolve does not ask for it.
		if _, e, _ := Resolve(w.s, c.l); e != api.OK {
			t.Errorf("P14.5: %d", e)
		}
	}
	first := label.Sort([]api.Label{bad, foreign, alien})[0]
	if _, e, at := Plan(w.s, wants(alien, foreign, bad)); at != first || e == api.OK {
		t.Errorf("P14.4: %d, %s", e, showLabel(at))
	}
	// One that is made is not asked: its output came from elsewhere.
	gl := w.lay("g", recipeOf(0, "out", "no step"))
	w.put(guest(w.outLabel(gl, "out"), file("x")))
	w.planned("P14.4: made all the same", nil, want(gl))
	over := w.lay("h", asking(float("file out "+stand(gl, "out")), gl, "out"))
	w.planned("P14.4: made all the same", []api.Label{over}, want(over))
}

// resolved holds what Resolve answers, by the package and by the plain reading.
func (w *world) resolved(what string, l api.Label) (api.Recipe, api.Errno, api.Label) {
	w.t.Helper()
	was := markOf(w)
	r, e, at := Resolve(w.s, l)
	if pr, pe, pat := plainResolve(w.s, l); toldRecipe(r, e, at) != toldRecipe(pr, pe, pat) {
		w.t.Errorf("%s: Resolve = %s, want %s", what, toldRecipe(r, e, at), toldRecipe(pr, pe, pat))
	}
	unchanged(w.t, what, w, was)
	return r, e, at
}

func TestResolve(t *testing.T) {
	own, foreign := tree("t", file("own")), guest(numbered(1), file("guest"))
	w := newWorld(t, own, foreign)
	b := w.lay("b", recipeOf(2, "doc out", "file out 1", "file doc 2"))
	c := w.lay("c", recipeOf(0, "out", "file out 3"))
	d := w.lay("d", flat("abc", "file out abc"))
	r := recipeOf(2, "doc out", "copy out "+stand(b, "out"), "file doc "+stand(b, "doc")+"/x:"+stand(c, "out")+stand(d, "out"), "line doc no")
	r = given(r, "v", "at "+stand(c, "out"))
	for _, in := range []api.Label{b, c, d} {
		outputs := "out"
		if in == b {
			outputs = "doc out"
		}
		r = asking(r, in, outputs)
	}
	r = from(r, own.Label, foreign.Label)
	l := w.lay("a", r)
	inputs := label.Sort([]api.Label{b, c, d})
	for _, in := range inputs { // the first input that is not made
		if _, e, at := w.resolved("P14.5", l); e != api.ErrNone || at != in {
			t.Errorf("P14.5: %d, %s", e, showLabel(at))
		}
		w.make(want(in))
	}
	got, e, at := w.resolved("P14.5", l)
	made := map[string]api.Label{}
	for _, in := range inputs {
		for _, m := range mustMake(t, w, want(in)) {
			made[m.Key[65:]+in.Name] = m.Label
		}
	}
	bdoc, bout, cout, dout := textOf(made["docb.recipe"]), textOf(made["outb.recipe"]), textOf(made["outc.recipe"]), textOf(made["outd.recipe"])
	sources := []string{bdoc, bout, cout, dout, textOf(own.Label), textOf(foreign.Label)}
	slices.Sort(sources)
	if e != api.OK || at != (api.Label{}) || len(got.Inputs) > 0 || !slices.Equal(got.Sources, sources) {
		t.Errorf("P14.5: %s", toldRecipe(got, e, at))
	}
	if want := []string{"copy out " + bout, "file doc " + bdoc + "/x:" + cout + dout, "line doc no"}; !slices.Equal(got.Args, want) {
		t.Errorf("P14.5: %q, want %q", got.Args, want)
	}
	if want := []api.Pair{{Key: "doc"}, {Key: "out"}, {Key: "v", Value: "at " + cout}}; !slices.Equal(got.Env, want) {
		t.Errorf("P14.5: %q, want %q", got.Env, want)
	}
	if fmt.Sprint(got.Outputs, got.System, got.Builder) != fmt.Sprint(r.Outputs, r.System, r.Builder) {
		t.Errorf("P14.5: %s", toldRecipe(got, e, at))
	}
	// An input of which one output is gone.
	w.drop(made["docb.recipe"])
	if _, e, at := w.resolved("P14.5", l); e != api.ErrNone || at != b {
		t.Errorf("P14.5: %d, %s", e, showLabel(at))
	}
}

func mustMake(t *testing.T, w *world, asked ...api.Want) []api.Made {
	t.Helper()
	f, e := Make(w.s, asked, 1)
	if e != api.OK {
		t.Fatalf("P14.6: %d, %s", e, showForging(f))
	}
	return f.Mades
}

// Two of what stands for outputs are one text. No recipe of a shelf is so, whose Inputs are in order: this one is made by hand.
func TestStandsClash(t *testing.T) {
	w := newWorld(t)
	b := w.lay("b", float("file out x"))
	l := w.lay("a", asking(float("file out "+stand(b, "out")), b, "out"))
	w.make(want(b))
	a, e, _ := gather(w.s, wants(l))
	if e != api.OK {
		t.Fatalf("P14.3: %d", e)
	}
	k := &a.list[a.number[l]]
	if _, e, at := a.resolve(a.number[l]); e != api.OK || at != (api.Label{}) {
		t.Errorf("P14.5: %d, %s", e, showLabel(at))
	}
	k.recipe.Inputs, k.inputs = slices.Repeat(k.recipe.Inputs, 2), slices.Repeat(k.inputs, 2)
	if r, e, at := a.resolve(a.number[l]); e != api.ErrClash || at != l || toldRecipe(r, 0, at) != toldRecipe(api.Recipe{}, 0, at) {
		t.Errorf("P14.5: %d, %s", e, showLabel(at))
	}
}

// Sources that are there twice: as a source and as an input's output, or as those of two inputs.
func TestResolvedSources(t *testing.T) {
	w := newWorld(t)
	b := w.lay("b", flat("abc", "file out abc"))
	b2 := w.lay("b", flat("abc", "file out abc", "need out"))
	made := w.make(want(b))[0]
	r := from(asking(asking(float("file out "+stand(b, "out")+stand(b2, "out")), b, "out"), b2, "out"), made)
	l := w.lay("a", r)
	got, e, _ := w.resolved("P14.5", l)
	if e != api.OK || !slices.Equal(got.Sources, []string{textOf(made)}) || got.Args[0] != "file out "+textOf(made)+textOf(made) {
		t.Errorf("P14.5: %d, %q", e, got.Sources)
	}
	// A recipe without inputs is itself.
	plain := w.lay("p", from(float("file out x"), made))
	got, e, _ = w.resolved("P14.5", plain)
	if e != api.OK || !slices.Equal(got.Sources, []string{textOf(made)}) || !slices.Equal(got.Args, []string{"file out x"}) {
		t.Errorf("P14.5: %d, %q", e, got.Sources)
	}
}

// A source that is not on the shelf: the first of them, behind inputs that are not made.
func TestMissingSources(t *testing.T) {
	w := newWorld(t)
	b := w.lay("b", float("file out x"))
	gone := label.Sort([]api.Label{numbered(1), numbered(2), numbered(3)})
	r, _, _ := modulo.Fill("a", from(asking(float("file out "+stand(b, "out")), b, "out"), gone[2], gone[1]), w.known)
	l := w.loosely("a", r)
	if _, e, at := w.resolved("P14.5", l); e != api.ErrNone || at != b {
		t.Errorf("P14.5: %d, %s", e, showLabel(at))
	}
	w.make(want(b))
	if _, e, at := w.resolved("P14.5", l); e != api.ErrNone || at != gone[1] {
		t.Errorf("P14.5: %d, %s", e, showLabel(at))
	}
	w.refuse("P14.7: 2", api.ErrNone, gone[1], 0, nil, want(l))
	w.put(guest(gone[1], file("x")))
	w.refuse("P14.7: 2", api.ErrNone, gone[2], 0, nil, want(l))
	w.put(guest(gone[2], file("x")))
	if _, e, _ := w.resolved("P14.5", l); e != api.OK {
		t.Errorf("P14.5: %d", e)
	}
	w.make(want(l))
}

// What Resolve answers may have more sources than a recipe may have; it is run all the same, and has no sum of its own.
func TestManySources(t *testing.T) {
	var sources []api.Object
	var labels []api.Label
	for i := range api.MaxRefs - 1 {
		sources = append(sources, tree(fmt.Sprint("s", i), file(fmt.Sprint(i))))
		labels = append(labels, sources[i].Label)
	}
	w := newWorld(t, sources...)
	b := w.lay("b", recipeOf(2, "doc out", "file out x", "file doc y"))
	r := from(asking(float("file out "+part(labels[0])+" ${out}", "text out "+stand(b, "out")), b, "doc out"), labels...)
	l := w.lay("a", r)
	// A made that was laid down by hand has no part in it.
	w.s.Apply([]api.Step{madeOf(modulo.Key(api.Sum{}, "out"), labels[0])})
	made := w.make(want(b), want(l))
	got, e, _ := w.resolved("P14.5", l)
	if e != api.OK || len(got.Sources) != api.MaxRefs+1 {
		t.Fatalf("P14.5: %d, %d sources", e, len(got.Sources))
	}
	if _, hasBare := bareSum("a", got); hasBare {
		t.Error("P14.7: it has a sum")
	}
	o := w.get(made[2])
	if o.Ca != api.ByGroup || len(o.Refs) != 3 || !strings.Contains(w.bytes(made[2]), part(made[2])) || strings.Contains(w.bytes(made[2]), digitsOf(modulo.Scratch(w.sum(l), "out"))) {
		t.Errorf("P14.7: %s", showLabels(o.Refs))
	}
	if n := len(w.s.Mades()); n != 4 {
		t.Errorf("P14.7: %d mades", n)
	}
	// What its scratch label is shows in a sum.
	l2 := w.lay("a", from(asking(float("file tmp ${out} is me", "sum out tmp"), b, "doc out"), labels...))
	b2 := bothOn(t, w.v.Disk(), 1<<24)
	if told := b2.make(wants(l2), 4); !strings.HasPrefix(told, "0") {
		t.Errorf("P14.7: %s", told)
	}
}

// Only the closure of its sources is given to a recipe: not what else is on the shelf, and not what asks for it.
func TestInputsOfTheShelf(t *testing.T) {
	low := tree("low", file("low"))
	high := guest(numbered(1), file("high"), low.Label)
	beside := tree("beside", file("beside"))
	w := newWorld(t, low, high, beside)
	for _, c := range []struct {
		at    api.Label
		given []api.Label
		ok    bool
	}{
		{high.Label, []api.Label{high.Label}, true}, {low.Label, []api.Label{high.Label}, true}, {low.Label, []api.Label{low.Label}, true},
		{high.Label, []api.Label{low.Label}, false}, {beside.Label, []api.Label{high.Label}, false}, {low.Label, nil, false}, {beside.Label, nil, false}, {numbered(9), []api.Label{high.Label}, false},
	} {
		for mode := 0; mode <= 2; mode += 2 {
			l := w.lay("r", from(recipeOf(mode, "out", "copy out "+textOf(c.at)), c.given...))
			if c.ok {
				if got := w.comes(l); showTree(w.tree(got[0].Label)) != showTree(w.tree(c.at)) {
					t.Errorf("P14.7: 4: %s", showTree(w.tree(got[0].Label)))
				}
			} else {
				w.refuse("P14.7: 4: not among the inputs", api.ErrStep, l, 0, nil, want(l))
			}
		}
	}
	// What an input's output leads to is among them, what the input's recipe has is not.
	b := w.lay("b", from(recipeOf(0, "doc out", "file out "+part(low.Label), "file doc "+part(high.Label)), low.Label, high.Label))
	for from, ok := range map[string]bool{stand(b, "out"): true, textOf(low.Label): true, textOf(high.Label): false, textOf(b): false} {
		l := w.lay("r", asking(float("need "+from, "file out x"), b, "out"))
		if f, e := w.both(want(l)); (e == api.OK) != ok {
			t.Errorf("P14.7: 4: %s: %d, %s", from, e, showForging(f))
		}
	}
}

func digitsOf(h api.Hash) string { return part(api.Label{Hash: h}) }
