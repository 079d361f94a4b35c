package forge

import (
	"fmt"
	"slices"
	"strings"
	"testing"

	"graft/api"
	"graft/journal"
	"graft/modulo"
	"graft/recipe"
)

// bare is the sum that a recipe has when it is resolved.
func (w *world) bare(l api.Label) api.Sum {
	w.t.Helper()
	r, e, _ := Resolve(w.s, l)
	if e != api.OK {
		w.t.Fatalf("P14.5: %d", e)
	}
	sum, e, _ := modulo.Hash(strings.TrimSuffix(l.Name, ".recipe"), recipe.Blank(r), nil)
	if e != api.OK {
		w.t.Fatalf("P7.1: %d", e)
	}
	return sum
}

// entries is the first bytes of the entries of a shelf's last batch that are mades, and their keys.
func lastKeys(t *testing.T, v *journal.Device) []string {
	t.Helper()
	story, e, _, _ := journal.Replay(v.Disk())
	if e != api.OK || len(story.Batches) == 0 {
		t.Fatalf("P11.5: %d", e)
	}
	var text string
	for _, p := range story.Batches[len(story.Batches)-1] {
		text += string(p)
	}
	var out []string
	for at := 0; at < len(text); at++ {
		if text[at] == '!' && at > 64 && strings.Trim(text[at-64:at], "0123456789abcdef") == "" {
			end := at + 1
			for end < len(text) && text[end] >= 'a' && text[end] <= 'z' {
				end++
			}
			out = append(out, text[at-64:end])
		}
	}
	return out
}

// The mades of a recipe: by its own sum, and by the one that it has when it is resolved, if that is another one; output by output.
func TestTwoSums(t *testing.T) {
	w := newWorld(t)
	b := w.lay("b", float("file out b"))
	a := w.lay("a", asking(recipeOf(2, "doc out", "file out "+stand(b, "out"), "file doc x"), b, "out"))
	made := w.make(want(b), want(a))
	k, bare := w.sum(a), w.bare(a)
	if k == bare || w.sum(b) != w.bare(b) {
		t.Fatal("P7.1")
	}
	if got, want := lastKeys(t, w.v), []string{modulo.Key(k, "doc"), modulo.Key(bare, "doc"), modulo.Key(k, "out"), modulo.Key(bare, "out")}; !slices.Equal(got, want) {
		t.Errorf("P14.7: 6: %q, want %q", got, want)
	}
	for key, l := range map[string]api.Label{w.key(b, "out"): made[0], modulo.Key(k, "doc"): made[1], modulo.Key(bare, "doc"): made[1], modulo.Key(k, "out"): made[2], modulo.Key(bare, "out"): made[2]} {
		if got, e := w.s.Made(key); e != api.OK || got != l {
			t.Errorf("P14.7: 6: %s: %s", key, showLabel(got))
		}
	}
	if n := len(w.s.Mades()); n != 5 {
		t.Errorf("P14.7: 6: %d mades", n)
	}
	// The recipe as it is resolved, laid down as one of its own: it is what another one has come to, and made at once.
	r, _, _ := Resolve(w.s, a)
	c := w.layAs("a", r)
	if w.sum(c) != bare {
		t.Fatal("P7.1")
	}
	w.planned("P14.4", nil, want(c))
	if got := w.make(want(c)); !slices.Equal(got, made[1:]) {
		t.Errorf("P14.7: %s", showLabels(got))
	}
	// Under another name it is run.
	d := w.layAs("d", r)
	f, e := w.both(want(d))
	if e != api.OK || !slices.Equal(f.Ran, []api.Label{d}) {
		t.Errorf("P14.7: %d, %s", e, showForging(f))
	}
}

// P14.10: an input that was changed and comes to the same.
func TestEarlyCutOff(t *testing.T) {
	w := newWorld(t)
	b := w.lay("b", recipeOf(2, "doc out", "file out b ${out}", "file doc d"))
	b2 := w.lay("b", recipeOf(2, "doc out", "file out b ${out}", "file doc d", "need doc"))
	b3 := w.lay("b", recipeOf(2, "doc out", "file out b ${out}", "file doc e"))
	over := func(in api.Label) api.Recipe {
		return asking(given(recipeOf(2, "dev out", "copy out "+stand(in, "out"), "file dev ${v} ${out}"), "v", stand(in, "doc")), in, "doc out")
	}
	a, a2, a3 := w.lay("a", over(b)), w.lay("a", over(b2)), w.lay("a", over(b3))
	top := w.lay("t", asking(float("file out "+stand(a, "dev")), a, "dev"))
	top2 := w.lay("t", asking(float("file out "+stand(a2, "dev")), a2, "dev"))
	first, e := w.both(want(top), want(a))
	if e != api.OK || !slices.Equal(first.Ran, []api.Label{b, a, top}) {
		t.Fatalf("P14.6: %d, %s", e, showForging(first))
	}
	made := w.make(want(b2))
	if !slices.Equal(made, w.make(want(b))) {
		t.Fatal("P14.9")
	}
	w.planned("P14.4", []api.Label{a2}, want(a2))
	count, last := len(w.s.List()), w.s.Last()
	f, e := w.both(want(a2))
	if e != api.OK || len(f.Ran) > 0 || f.Mades[0].Label != first.Mades[1].Label || f.Mades[1].Label != first.Mades[2].Label || f.Mades[0].Key != w.key(a2, "dev") || w.s.Last() != last+1 || len(w.s.List()) != count {
		t.Errorf("P14.10: %d, %s", e, showForging(f))
	}
	if got, want := lastKeys(t, w.v), []string{w.key(a2, "dev"), w.key(a2, "out")}; !slices.Equal(got, want) {
		t.Errorf("P14.7: 3: %q, want %q", got, want)
	}
	f, e = w.both(want(top2))
	if e != api.OK || len(f.Ran) > 0 || f.Mades[0].Label != first.Mades[0].Label {
		t.Errorf("P14.10: %d, %s", e, showForging(f))
	}
	// One that comes to something else is run.
	f, e = w.both(want(a3))
	if e != api.OK || !slices.Equal(f.Ran, []api.Label{b3, a3}) || f.Mades[0].Label == first.Mades[1].Label {
		t.Errorf("P14.10: %d, %s", e, showForging(f))
	}
}

// In one Make: the changed input is run, what is over it is not; with any number of workers.
func TestCutOffAtOnce(t *testing.T) {
	w := newWorld(t)
	b := w.lay("b", float("file out b"))
	b2 := w.lay("b", float("file out b", "need out"))
	over := func(in api.Label) api.Recipe { return asking(float("copy out "+stand(in, "out")), in, "out") }
	a, a2 := w.lay("a", over(b)), w.lay("a", over(b2))
	plan, _, _ := Plan(w.s, wants(a, a2))
	for workers := 1; workers <= 16; workers++ {
		b := bothOn(t, w.v.Disk(), 1<<20)
		b.make(wants(a, a2), workers)
		f, e := Make(w.again(1<<20).s, wants(a, a2), workers)
		// The second of a and a2 is what the first has come to.
		if e != api.OK || len(plan) != 4 || len(f.Ran) != 3 || f.Mades[0].Label != f.Mades[1].Label {
			t.Errorf("P14.10: %d workers: %d, %s", workers, e, showForging(f))
		}
	}
}

// What is there by the resolved sum in part is not enough: it is run.
func TestHalfCutOff(t *testing.T) {
	w := newWorld(t)
	b := w.lay("b", float("file out b"))
	a := w.lay("a", asking(recipeOf(2, "doc out", "file out "+stand(b, "out"), "file doc x"), b, "out"))
	made := w.make(want(b), want(a))
	b2 := w.lay("b", float("file out b", "need out"))
	a2 := w.lay("a", asking(recipeOf(2, "doc out", "file out "+stand(b2, "out"), "file doc x"), b2, "out"))
	w.make(want(b2))
	w.drop(made[1]) // a's doc, and its mades
	f, e := w.both(want(a2))
	if e != api.OK || !slices.Equal(f.Ran, []api.Label{a2}) || f.Mades[0].Label != made[1] || f.Mades[1].Label != made[2] {
		t.Errorf("P14.7: 3: %d, %s", e, showForging(f))
	}
	// Another made in the way of the cut-off: the shelf's error, and it is not run.
	x := tree("x", file("x"))
	w.put(x)
	b3 := w.lay("b", float("file out b", "need out", "need out"))
	a3 := w.lay("a", asking(recipeOf(2, "doc out", "file out "+stand(b3, "out"), "file doc x"), b3, "out"))
	w.make(want(b3))
	w.s.Apply([]api.Step{madeOf(w.key(a3, "out"), x.Label)})
	b4 := bothOn(t, w.v.Disk(), 1<<24)
	b4.make(wants(a3), 2)
	w.refuse("P14.7: 3: another made", api.ErrThere, a3, 0, nil, want(a3))
}

// Only floating recipes are cut off: fixed ones and guests are run, or are there.
func TestNoCutOff(t *testing.T) {
	w := newWorld(t)
	b := w.lay("b", float("file out b"))
	b2 := w.lay("b", float("file out b", "need out"))
	over := func(in api.Label) api.Recipe {
		return asking(recipeOf(0, "out", "copy out "+stand(in, "out")), in, "out")
	}
	a, a2 := w.lay("a", over(b)), w.lay("a", over(b2))
	f, e := w.both(want(a), want(a2))
	if e != api.OK || len(f.Ran) != 4 || f.Mades[0].Label == f.Mades[1].Label {
		t.Errorf("P14.7: mode 0: %d, %s", e, showForging(f))
	}
	fixed := w.lay("x", asking(flat("b", "copy out "+stand(b, "out")), b, "out"))
	fixed2 := w.lay("x", asking(flat("b", "copy out "+stand(b2, "out")), b2, "out"))
	f, e = w.both(want(fixed), want(fixed2))
	if e != api.OK || len(f.Ran) != 1 || f.Mades[0].Label != f.Mades[1].Label || len(w.s.Mades()) != 2 {
		t.Errorf("P14.7: mode 1: %d, %s", e, showForging(f))
	}
}

// Mades that were laid down by hand for recipes that have none: nothing is cut off by them.
func TestMadesByHand(t *testing.T) {
	x := tree("x", file("x"))
	w := newWorld(t, x)
	guests, fixed := w.lay("g", recipeOf(0, "out", "file out g")), w.lay("f", flat("f", "file out f"))
	for _, l := range []api.Label{guests, fixed} {
		w.s.Apply([]api.Step{madeOf(w.key(l, "out"), x.Label), madeOf(modulo.Key(w.bare(l), "out"), x.Label), madeOf(modulo.Key(api.Sum{}, "out"), x.Label)})
		f, e := w.both(want(l))
		if e != api.OK || !slices.Equal(f.Ran, []api.Label{l}) || f.Mades[0].Label != w.outLabel(l, "out") {
			t.Errorf("P14.7: 3: %d, %s", e, showForging(f))
		}
	}
}

// A ladder of recipes, each of which asks for both of the two below it: each is read and done once.
func TestLadder(t *testing.T) {
	w := newWorld(t)
	low := [2]api.Label{w.lay("l", float("file out l")), w.lay("r", float("file out r"))}
	for i := range 40 {
		next := low
		for side := range low {
			r := float(fmt.Sprint("file out ", i, side), "text out "+stand(low[0], "out")+stand(low[1], "out"))
			next[side] = w.lay("lr"[side:side+1], asking(asking(r, low[0], "out"), low[1], "out"))
		}
		low = next
	}
	f, e := Make(w.s, wants(low[0], low[1]), 3)
	if e != api.OK || len(f.Ran) != 82 {
		t.Errorf("P14.6: %d, %d ran", e, len(f.Ran))
	}
}

// A recipe that is needed as a source, though no input says so: it is there when its turn comes, with any number of workers.
func TestSourceMadeAhead(t *testing.T) {
	for _, seed := range []string{"", "1", "22", "333", "4444", "55555"} {
		w := newWorld(t)
		x := w.lay("x", flat("abc"+seed, "file out abc"+seed))
		r := from(float("copy out "+textOf(w.outLabel(x, "out"))), w.outLabel(x, "out"))
		l := w.loosely("a", r)
		plan, _, _ := Plan(w.s, wants(x, l))
		for workers := 1; workers <= 16; workers += 5 {
			b := bothOn(t, w.v.Disk(), 1<<20)
			told := b.make(wants(x, l), workers)
			if ok := strings.HasPrefix(told, "0 "); ok != (plan[0] == x) {
				t.Errorf("P14.6: %d workers: %s", workers, told)
			}
		}
	}
}

// A key in a step that is a Stand: when it is resolved there is no such key, and no step.
func TestKeyResolved(t *testing.T) {
	w := newWorld(t)
	b := w.lay("b", float("file out b"))
	r := asking(given(float("dir tmp", "file out ${"+stand(b, "out")+"}"), stand(b, "out"), "v"), b, "out")
	l := w.lay("a", r)
	w.make(want(b))
	both := bothOn(t, w.v.Disk(), 1<<20)
	both.make(wants(l), 2)
	w.refuse("P14.7: 4: no such key", api.ErrStep, l, 1, nil, want(l))
}
