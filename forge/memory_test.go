package forge

import (
	"fmt"
	"slices"
	"strings"
	"testing"

	"graft/api"
	"graft/shelf"
)

// roomy is a list with room behind it, in which something stands.
func roomy[T any](list []T, stands T) []T {
	room := slices.Repeat([]T{stands}, len(list)+5)
	copy(room, list)
	return room[:len(list)]
}

// overwrite writes over a list and the room behind it.
func overwrite[T any](list []T, by T) {
	list = list[:cap(list)]
	for i := range list {
		list[i] = by
	}
}

// roomyRecipe is a recipe whose lists all have room behind them.
func roomyRecipe(r api.Recipe) api.Recipe {
	r.Outputs, r.Sources = roomy(r.Outputs, api.Output{Name: "!"}), roomy(r.Sources, "!")
	r.Args, r.Env, r.Inputs = roomy(r.Args, "!"), roomy(r.Env, api.Pair{Key: "!"}), roomy(r.Inputs, api.Input{Recipe: "!"})
	for i := range r.Inputs {
		r.Inputs[i].Outputs = roomy(r.Inputs[i].Outputs, "!")
	}
	return r
}

// wholeRecipe is all of a recipe, the room behind its lists too.
func wholeRecipe(r api.Recipe) string {
	out := fmt.Sprintf("%q %q %q %q %q %q", r.Outputs[:cap(r.Outputs)], r.Sources[:cap(r.Sources)], r.System, r.Builder, r.Args[:cap(r.Args)], r.Env[:cap(r.Env)])
	for _, in := range r.Inputs[:cap(r.Inputs)] {
		out += fmt.Sprintf("%q %q", in.Recipe, in.Outputs[:cap(in.Outputs)])
	}
	return out
}

// overwriteRecipe writes over all lists of a recipe.
func overwriteRecipe(r api.Recipe) {
	for _, in := range r.Inputs {
		overwrite(in.Outputs, "?")
	}
	overwrite(r.Outputs, api.Output{Name: "?"})
	overwrite(r.Inputs, api.Input{Recipe: "?"})
	overwrite(r.Sources, "?")
	overwrite(r.Args, "?")
	overwrite(r.Env, api.Pair{Key: "?"})
}

// roomyObjects is objects whose lists have room behind them.
func roomyObjects(objects ...api.Object) []api.Object {
	for i, o := range objects {
		objects[i].Ark, objects[i].Refs = roomy(o.Ark, '!'), roomy(o.Refs, numbered(99))
	}
	return roomy(objects, api.Object{Maker: "!"})
}

func wholeObjects(objects []api.Object) string {
	out := ""
	for _, o := range objects[:cap(objects)] {
		out += fmt.Sprintf("%v %v %q %q", o.Label, o.Refs[:cap(o.Refs)], o.Ark[:cap(o.Ark)], o.Maker)
	}
	return out
}

// What Check and Run are handed stays as it was, its spare room too; what Run hands out has no memory in common with it.
func TestRunMemory(t *testing.T) {
	x := guest(numbered(1), dir(entry("f", file("bytes")), entry("g", program("more"))))
	args := []string{"dir out", "copy out/a " + textOf(x.Label), "copy out/b " + textOf(x.Label), "copy doc " + textOf(x.Label) + "/f", "text doc x", "add out/a/f doc", "swap out/b/f y z", "copy tmp out/a", "copy out/c tmp/f",
		"text out/c 1", "line tmp/f 2", "move out/d tmp", "list out/e out", "sum out/f out", "exec out/c", "file out/g ${v}"}
	r := roomyRecipe(given(asking(from(recipeOf(0, "doc out", args...), x.Label), numbered(2), "a b"), "v", "1 2"))
	inputs := roomyObjects(x, guest(numbered(3), file("z")))
	before, objects := wholeRecipe(r), wholeObjects(inputs)
	if e, _ := Check(r); e != api.OK || wholeRecipe(r) != before {
		t.Errorf("P14.1: %d: the recipe has changed", e)
	}
	trees, e, at := Run(r, inputs)
	if e != api.OK {
		t.Fatalf("P14.2: %d, %d", e, at)
	}
	if wholeRecipe(r) != before || wholeObjects(inputs) != objects {
		t.Error("P14.2: what was handed in has changed")
	}
	told := toldRun(trees, e, at)
	overwriteRecipe(r)
	for _, o := range inputs {
		overwrite(o.Ark, '?')
	}
	if got := toldRun(trees, e, at); got != told {
		t.Errorf("P14.2: what was handed in is kept: %s, want %s", got, told)
	}
	apart(t, "P14.2", trees)
}

// apart holds that no two lists of trees have memory in common, their spare room too.
func apart(t *testing.T, what string, trees []api.Node) {
	t.Helper()
	var datas [][]byte
	var lists [][]api.Entry
	var walk func(n api.Node)
	walk = func(n api.Node) {
		datas, lists = append(datas, n.Data), append(lists, n.List)
		for _, x := range n.List {
			walk(x.Node)
		}
	}
	for _, n := range trees {
		walk(n)
	}
	var texts []string
	for _, d := range datas {
		texts = append(texts, string(d))
	}
	for i, d := range datas {
		overwrite(d, byte('A'+i%26))
		for k := i + 1; k < len(datas); k++ {
			if string(datas[k]) != texts[k] {
				t.Fatalf("%s: two files share memory", what)
			}
		}
	}
	for i, l := range lists {
		was := fmt.Sprint(lists[i+1:])
		overwrite(l[len(l):], api.Entry{Name: "?"})
		if fmt.Sprint(lists[i+1:]) != was {
			t.Fatalf("%s: two directories share memory", what)
		}
	}
}

// A recipe that is run with one list for two of its fields.
func TestSharedWithin(t *testing.T) {
	texts := []string{"dir out", "file out/a x"}
	r := plainly(texts...)
	r.Args, r.Sources = texts, texts
	runsTo(t, r, nil, api.OK, 0, dir(entry("a", file("x"))))
	x := guest(numbered(1), file("x"))
	runsTo(t, plainly("copy out "+textOf(x.Label)), []api.Object{x, x, x}, api.OK, 0, file("x"))
}

// roomyWants is wants whose lists have room behind them.
func roomyWants(asked ...api.Want) []api.Want {
	for i, w := range asked {
		asked[i].Outputs = roomy(w.Outputs, "!")
	}
	return roomy(asked, api.Want{Recipe: numbered(99)})
}

func wholeWants(asked []api.Want) string {
	out := ""
	for _, w := range asked[:cap(asked)] {
		out += fmt.Sprintf("%v %q", w.Recipe, w.Outputs[:cap(w.Outputs)])
	}
	return out
}

// Wants stay as they were, their spare room too, and are not kept.
func TestWantsMemory(t *testing.T) {
	for what, ask := range map[string]func(s *shelf.Shelf, asked []api.Want) string{
		"Plan": func(s *shelf.Shelf, asked []api.Want) string { return toldPlan(Plan(s, asked)) },
		"Make": func(s *shelf.Shelf, asked []api.Want) string { return toldMake(Make(s, asked, 3)) },
	} {
		w, l := rich(t)
		asked := roomyWants(want(l[2], "out", "dev", "out"), want(l[5]), want(l[3], "doc"))
		before := wholeWants(asked)
		told := ask(w.s, asked)
		if wholeWants(asked) != before {
			t.Errorf("%s: what was handed in has changed", what)
		}
		was := markOf(w)
		for _, a := range asked {
			overwrite(a.Outputs, "?")
		}
		overwrite(asked, api.Want{Recipe: numbered(98)})
		unchanged(t, what+": what was handed in is kept", w, was)
		if !strings.Contains(told, "0") {
			t.Errorf("%s: %s", what, told)
		}
	}
}

// What is handed out is new memory: what is written into it, and behind it, shows nowhere.
func TestHandedOut(t *testing.T) {
	w, l := rich(t)
	asked := wants(l...)
	plan := func() string { return toldPlan(Plan(w.s, asked)) }
	before := plan()
	labels, _, _ := Plan(w.s, asked)
	overwrite(labels, numbered(99))
	if got := plan(); got != before {
		t.Errorf("P14.4: %s, want %s", got, before)
	}
	f, e := Make(w.s, asked, 4)
	if e != api.OK {
		t.Fatalf("P14.6: %d", e)
	}
	was := markOf(w)
	ran := showLabels(f.Ran)
	overwrite(f.Mades, api.Made{Key: "?"})
	if showLabels(f.Ran) != ran {
		t.Error("P14.6: two lists of one answer share memory")
	}
	overwrite(f.Ran, numbered(99))
	unchanged(t, "P14.6: what was written into the answer", w, was)
	for _, x := range l {
		tell := func() string { return toldRecipe(Resolve(w.s, x)) }
		before := tell()
		r, e, _ := Resolve(w.s, x)
		if e != api.OK {
			t.Fatalf("P14.5: %d", e)
		}
		texts := fmt.Sprintf("%q %q %q", r.Args, r.Env, r.Outputs)
		overwrite(r.Sources, "?")
		if fmt.Sprintf("%q %q %q", r.Args, r.Env, r.Outputs) != texts {
			t.Error("P14.5: two lists of one answer share memory")
		}
		overwriteRecipe(r)
		if got := tell(); got != before {
			t.Errorf("P14.5: %s, want %s", got, before)
		}
	}
	unchanged(t, "P14.5: what was written into the answer", w, was)
	// With an error too.
	bad := w.lay("bad", asking(float("fail x"), l[0], "out"))
	more := w.lay("more", float("file out x"))
	f, e = Make(w.s, wants(more, bad), 2)
	was = markOf(w)
	overwrite(f.Ran, numbered(99))
	unchanged(t, "P14.6: what was written into the answer", w, was)
	if e != api.ErrStep {
		t.Errorf("P14.6: %d", e)
	}
}
