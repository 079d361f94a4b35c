package forge

import (
	"fmt"
	"slices"
	"strings"
	"testing"

	"graft/api"
	"graft/label"
	"graft/recipe"
)

// defect holds what Plan, Make and the plain reading say of wants: an error, and the label that it is about.
func (w *world) defect(what string, e api.Errno, at api.Label, asked ...api.Want) {
	w.t.Helper()
	if l, got, where := Plan(w.s, asked); got != e || where != at || len(l) > 0 {
		w.t.Errorf("%s: Plan = %s, want %d, %s", what, toldPlan(l, got, where), e, showLabel(at))
	}
	if _, got, where, _ := plainPlan(w.s, asked); got != e || where != at {
		w.t.Errorf("%s: the plain reading = %d, %s, want %d, %s", what, got, showLabel(where), e, showLabel(at))
	}
	w.refuse(what, e, at, 0, nil, asked...)
	if len(asked) == 1 && len(asked[0].Outputs) == 0 {
		if r, got, where := Resolve(w.s, asked[0].Recipe); got != e || where != at || toldRecipe(r, 0, at) != toldRecipe(api.Recipe{}, 0, at) {
			w.t.Errorf("%s: Resolve = %s, want %d, %s", what, toldRecipe(r, got, where), e, showLabel(at))
		}
	}
}

// 14.2: what is no recipe of the shelf.
func TestRecipesOfTheShelf(t *testing.T) {
	right := recipeObject(t, "r", mustFill(t, "r", recipeOf(0, "out", "file out x")))
	text := string(mustTree(t, right).Data)
	ark := func(n api.Node) api.Object { o := right; o.Ark = arkFor(n); return o }
	as := func(l api.Label) api.Object { o := right; o.Label = l; return o }
	other := right.Label
	other.Name = "s.recipe"
	short := right.Label
	short.Name = "recipe"
	nameless := right.Label
	nameless.Name = "r"
	turned := right.Label
	turned.Hash[7] ^= 1
	capital := right.Label
	capital.Name = "r.Recipe"
	behind := right.Label
	behind.Name = "r.recipe.x"
	texts, _ := label.Text("r", []byte(text), nil)
	for what, o := range map[string]api.Object{
		"a directory": ark(dir()), "a directory with the file": ark(dir(entry("r", file(text)))), "a link": ark(link("x")), "an executable file": ark(program(text)),
		"no bytes": ark(file("")), "a byte less": ark(file(text[:len(text)-1])), "a byte more": ark(file(text + "\n")), "another recipe": ark(file(strings.Replace(text, "file out x", "file out y", 1))),
		"another name": as(other), "no name ahead of the point": as(short), "no .recipe": as(nameless), "another hash": as(turned), "a capital": as(capital), "something behind": as(behind), "the text's own label": as(texts),
	} {
		w := newWorld(t, o)
		w.defect(what, api.ErrRecipe, o.Label, want(o.Label))
		w.defect("of "+what, api.ErrNone, turnedBack(o.Label), want(turnedBack(o.Label)))
	}
	w := newWorld(t)
	w.defect("an empty shelf", api.ErrNone, right.Label, want(right.Label))
	w.defect("the zero label", api.ErrNone, api.Label{}, want(api.Label{}))
	w.defect("no name", api.ErrNone, api.Label{Name: ".recipe"}, want(api.Label{Name: ".recipe"}))
	// What else the object is has no part in it.
	x := guest(numbered(1), file(""))
	o := right
	o.Ca, o.Refs, o.Maker = api.Guest, []api.Label{x.Label}, textOf(x.Label)
	w = newWorld(t, x, o)
	if l, e, _ := Plan(w.s, wants(o.Label)); e != api.OK || !slices.Equal(l, []api.Label{o.Label}) {
		t.Errorf("14.2: %d", e)
	}
	// Names that end in .recipe themselves, and the longest one.
	for _, name := range []string{"a.recipe", "recipe", "a.", strings.Repeat("n", 204)} {
		w := newWorld(t)
		l := w.lay(name, recipeOf(0, "out", "file out x"))
		if made := w.make(want(l)); len(made) != 1 || made[0].Name != name {
			t.Errorf("14.2: %s: %s", name, showLabels(made))
		}
	}
}

func turnedBack(l api.Label) api.Label {
	l.Hash[0] ^= 255
	return l
}

func mustFill(t *testing.T, name string, r api.Recipe) api.Recipe {
	t.Helper()
	w := newWorld(t)
	l := w.lay(name, r)
	out, _, _ := recipe.Read(w.bytes(l))
	return out
}

func mustTree(t *testing.T, o api.Object) api.Node {
	t.Helper()
	w := newWorld(t, o)
	return w.tree(o.Label)
}

// loosely puts a recipe on the shelf without references: so what it asks for need not be there.
func (w *world) loosely(name string, r api.Recipe) api.Label {
	w.t.Helper()
	o := recipeObject(w.t, name, r)
	o.Refs, o.Ca = nil, api.Guest
	w.put(o)
	return o.Label
}

// behind is a recipe that has these inputs, and is otherwise as it should be, whose label comes behind (or ahead of) another.
func (w *world) sorted(first bool, than api.Label, lay func(i int) api.Recipe) (string, api.Recipe) {
	w.t.Helper()
	for i := range 1000 {
		r := lay(i)
		l, e := recipe.Call("x", r)
		if e != api.OK {
			w.t.Fatalf("P6.9: %d", e)
		}
		if (label.Compare(l, than) < 0) == first {
			return "x", r
		}
	}
	w.t.Fatal("none is so")
	return "", api.Recipe{}
}

// 1: the first label, in order, that is no recipe of the shelf: of all that wants lead to.
func TestUnread(t *testing.T) {
	junk := api.Label{Hash: numbered(1).Hash, Name: "junk.recipe"}
	junk2 := api.Label{Hash: numbered(2).Hash, Name: "junk.recipe"}
	gone := api.Label{Hash: numbered(3).Hash, Name: "gone.recipe"}
	gone2 := api.Label{Hash: numbered(4).Hash, Name: "gone.recipe"}
	all := label.Sort([]api.Label{junk, junk2, gone, gone2})
	for mask := 1; mask < 16; mask++ {
		w := newWorld(t, guest(junk, file("junk")), guest(junk2, dir()))
		r := float("file out x")
		var some []api.Label
		for i, l := range all {
			if mask>>i&1 == 1 {
				some, r = append(some, l), asking(r, l, "out")
			}
		}
		l := w.loosely("a", r)
		e := api.ErrRecipe
		if some[0].Name == "gone.recipe" {
			e = api.ErrNone
		}
		w.defect(fmt.Sprint("P14.3: 1: ", mask), e, some[0], want(l))
		top := w.loosely("b", asking(float("file out y"), l, "out"))
		w.defect(fmt.Sprint("P14.3: 1, over a recipe: ", mask), e, some[0], want(top))
		var asked []api.Want
		for _, l := range slices.Backward(some) {
			asked = append(asked, want(l))
		}
		w.defect(fmt.Sprint("P14.3: 1, by wants: ", mask), e, some[0], asked...)
	}
}

// 2: the first recipe of which an output is asked for that it has not: by wants, and by recipes.
func TestLacking(t *testing.T) {
	w := newWorld(t)
	var list []api.Label
	for i := range 4 {
		list = append(list, w.lay("a", recipeOf(2, "doc out", fmt.Sprint("file out ", i), "file doc x")))
	}
	list = label.Sort(list)
	w.defect("P14.3: 2", api.ErrArg, list[2], want(list[2], "dev"))
	w.defect("P14.3: 2: among others", api.ErrArg, list[2], want(list[1], "doc"), want(list[2], "out", "dev", "doc"))
	w.defect("P14.3: 2: the first", api.ErrArg, list[0], want(list[3], "dev"), want(list[0], "dev"), want(list[2], "x"))
	w.defect("P14.3: 2: no name", api.ErrArg, list[1], want(list[1], ""))
	for _, output := range []string{"do", "docs", "ou", "outs", "DOC", "doc,out", "recipe", "a", "z"} {
		w.defect("P14.3: 2: "+output, api.ErrArg, list[1], want(list[1], output))
	}
	asks := w.lay("b", asking(asking(float("file out x"), list[3], "doc zzz"), list[1], "out"))
	w.defect("P14.3: 2: by a recipe", api.ErrArg, list[3], want(asks))
	w.defect("P14.3: 2: by a recipe, and by a want", api.ErrArg, list[2], want(asks), want(list[2], "x"))
	over := w.lay("c", asking(float("file out x"), asks, "out"))
	w.defect("P14.3: 2: over another", api.ErrArg, list[3], want(over))
	deepest := w.lay("d", asking(float("file out x"), asks, "more"))
	w.defect("P14.3: 2: two", api.ErrArg, label.Sort([]api.Label{list[3], asks})[0], want(deepest))
}

// 3: no recipes loop whose labels are their own; but would one, it would be told.
func TestLooping(t *testing.T) {
	a := &asked{number: map[api.Label]int{}}
	for i := range 6 {
		a.list = append(a.list, known{label: numbered(i)})
		a.number[numbered(i)] = i
	}
	needs := func(edges ...int) {
		for i := range a.list {
			a.list[i].inputs = nil
		}
		for i := 0; i < len(edges); i += 2 {
			a.list[edges[i]].inputs = append(a.list[edges[i]].inputs, numbered(edges[i+1]))
		}
	}
	for what, c := range map[string]struct {
		edges []int
		first int
	}{
		"none": {nil, -1}, "a chain": {[]int{0, 1, 1, 2, 2, 3, 0, 3}, -1}, "itself": {[]int{0, 4, 4, 4}, 4}, "a ring": {[]int{0, 5, 5, 3, 3, 2, 2, 5}, 2}, "two rings": {[]int{0, 3, 3, 4, 4, 3, 1, 2, 2, 1}, 1}, "one that leads there": {[]int{0, 1, 1, 1}, 1},
	} {
		needs(c.edges...)
		e, at := a.looping()
		if c.first < 0 && (e != api.OK || at != api.Label{}) || c.first >= 0 && (e != api.ErrLoop || at != numbered(c.first)) {
			t.Errorf("P14.3: 3: %s: %d, %s", what, e, showLabel(at))
		}
	}
}

// 4: texts that look like a Stand, and are none of what is asked for.
func TestStands(t *testing.T) {
	w := newWorld(t)
	b := w.lay("b", recipeOf(2, "doc out", "file out x", "file doc y"))
	c := w.lay("c", float("file out z"))
	z52 := strings.Repeat("z", 52)
	try := func(text string, right bool) {
		t.Helper()
		for i, r := range []api.Recipe{
			float("file out " + text), float("dir out", "need "+text), float(text), given(float("file out x"), "v", text),
		} {
			r = asking(r, b, "out")
			l := w.lay(fmt.Sprint("n", i), r)
			if !right {
				w.defect(fmt.Sprintf("P14.3: 4: %d: %q", i, text), api.ErrInput, l, want(l))
			} else if _, e, _ := Plan(w.s, wants(l)); e == api.ErrInput {
				t.Errorf("P14.3: 4: %d: %q: %d", i, text, e)
			}
		}
	}
	for text, right := range map[string]bool{
		stand(b, "out"): true, "x" + stand(b, "out") + stand(b, "out"): true, stand(b, "out") + "0": true, stand(b, "out") + "/a": true,
		"/" + stand(b, "out"): true, "/0123" + stand(b, "out"): true,
		stand(b, "doc"): false, stand(c, "out"): false, stand(b, "out") + stand(c, "out"): false, stand(b, "dev"): false,
		"/" + z52: false, "a/" + z52 + "z": false, "//" + z52: false, "/" + strings.Repeat("0", 52): false, "/" + strings.Repeat("0", 60): false,
		"/" + z52[1:]: true, "/" + z52[1:] + "e": true, "/" + z52[2:] + "-z": true, z52 + z52: true, "/e" + z52: true, "/" + z52[1:] + "/": true, "/" + z52[1:] + "Z": true,
		"/" + z52[26:] + "/" + z52[26:]: true, textOf(b): true, "/": true, "": true,
		"/" + digits(sourceOf(4), 52): false, "\x00/" + z52 + "\xff": false,
	} {
		try(text, right)
	}
	// Only Args and Env's Values are looked at.
	r := given(float("file out x"), "/"+z52, "v")
	r.Args = append(r.Args, "text out ${v}")
	r = given(r, "v", "1")
	l := w.lay("k", r)
	if _, e, _ := Plan(w.s, wants(l)); e != api.OK {
		t.Errorf("P14.3: 4: a key: %d", e)
	}
}

// 4: labels that do not follow from the recipe.
func TestUnfit(t *testing.T) {
	w := newWorld(t)
	b := w.lay("b", float("file out x"))
	for what, r := range map[string]api.Recipe{
		"no label":             recipeOf(0, "out", "file out x"),
		"no label, fixed":      flat("x", "file out x"),
		"no label, with input": asking(recipeOf(0, "out", "file out x"), b, "out"),
	} {
		l := w.layAs("r", r)
		w.defect("P14.3: 4: "+what, api.ErrOutput, l, want(l))
	}
	filled := mustFill(t, "r", recipeOf(0, "doc out", "file out x", "file doc x"))
	l := w.layAs("s", filled) // the labels of another name
	w.defect("P14.3: 4: another name's", api.ErrOutput, l, want(l))
	swapped, _ := recipe.Put(filled, []string{filled.Outputs[1].Label, filled.Outputs[0].Label})
	l = w.layAs("r", swapped)
	w.defect("P14.3: 4: another output's", api.ErrOutput, l, want(l))
	half, _ := recipe.Put(filled, []string{filled.Outputs[0].Label, ""})
	l = w.layAs("r", half)
	w.defect("P14.3: 4: one missing", api.ErrOutput, l, want(l))
	l = w.layAs("r", filled)
	if _, e, _ := Plan(w.s, wants(l)); e != api.OK {
		t.Errorf("P14.3: 4: %d", e)
	}
	// An output whose label can't be: it is too long.
	long := recipeOf(0, "details out", "file out x")
	l = w.layAs(strings.Repeat("n", 204), long)
	w.defect("P14.3: 4: too long", api.ErrOutput, l, want(l))
	// A recipe whose text without its inputs is as long as it may be is fine; that of its own sum too.
	l = w.lay("t", asking(recipeOf(0, "out", "file out x"), b, "out"))
	if _, e, _ := Plan(w.s, wants(l)); e != api.OK {
		t.Errorf("P14.3: 4: %d", e)
	}
}

// Two defects at once: the first of the four, whatever the labels' order is.
func TestTwoDefects(t *testing.T) {
	stray := "need /" + strings.Repeat("0", 52)
	gone := api.Label{Hash: numbered(3).Hash, Name: "gone.recipe"}
	for _, first := range []bool{true, false} {
		w := newWorld(t)
		fine := w.lay("fine", recipeOf(2, "doc out", "file out x", "file doc x"))
		lacks := w.lay("lacks", asking(float("file out x"), fine, "no"))
		// A missing one and one of which another output is asked for.
		_, r := w.sorted(first, fine, func(i int) api.Recipe { return asking(float(fmt.Sprint("file out ", i)), gone, "out") })
		l := w.loosely("x", r)
		w.defect(fmt.Sprint("P14.3: 1 and 2: ", first), api.ErrNone, gone, want(l), want(lacks))
		w.defect(fmt.Sprint("P14.3: 1 and 2, by a want: ", first), api.ErrNone, gone, want(fine, "no"), want(l))
		// One that lacks an output and one with a stray text, or a wrong label.
		_, r = w.sorted(first, fine, func(i int) api.Recipe { return float(fmt.Sprint("file out ", i), stray) })
		strays := w.lay("x", r)
		w.defect(fmt.Sprint("P14.3: 2 and 4: ", first), api.ErrArg, fine, want(strays), want(lacks))
		w.defect(fmt.Sprint("P14.3: 1 and 4: ", first), api.ErrNone, gone, want(strays), want(l))
		_, r = w.sorted(first, strays, func(i int) api.Recipe { return recipeOf(0, "out", fmt.Sprint("file out ", i)) })
		unfit := w.layAs("x", r)
		w.defect(fmt.Sprint("P14.3: 2 and 4: ", first), api.ErrArg, fine, want(unfit), want(lacks))
		// Two of the fourth kind: the first in the order of need, which is that of labels where neither needs the other.
		if label.Compare(unfit, strays) < 0 {
			w.defect(fmt.Sprint("P14.3: 4: ", first), api.ErrOutput, unfit, want(strays), want(unfit))
		} else {
			w.defect(fmt.Sprint("P14.3: 4: ", first), api.ErrInput, strays, want(unfit), want(strays))
		}
		// Both in one recipe.
		both := w.layAs("y", recipeOf(0, "out", "file out x", stray))
		w.defect("P14.3: 4: both", api.ErrInput, both, want(both))
		// One needs the other: that comes first, whatever its label is.
		_, r = w.sorted(first, strays, func(i int) api.Recipe { return asking(float(fmt.Sprint("file out ", i), stray), strays, "out") })
		over := w.lay("x", r)
		w.defect(fmt.Sprint("P14.3: 4: over another: ", first), api.ErrInput, strays, want(over))
		_, r = w.sorted(first, unfit, func(i int) api.Recipe { return asking(float(fmt.Sprint("file out ", i), stray), unfit, "out") })
		over = w.lay("x", r)
		w.defect(fmt.Sprint("P14.3: 4: over another: ", first), api.ErrOutput, unfit, want(over))
		// The least label is not the first in the order of need: a fine one that it needs comes ahead of another wrong one.
		_, r = w.sorted(first, fine, func(i int) api.Recipe { return asking(float(fmt.Sprint("file out ", i), stray), fine, "out") })
		needs := w.lay("x", r)
		_, e, at := Plan(w.s, wants(needs, strays, unfit, fine))
		_, pe, pat, _ := plainPlan(w.s, wants(needs, strays, unfit, fine))
		if e != pe || at != pat || e == api.OK {
			t.Errorf("P14.3: 4: %d, %s, want %d, %s", e, showLabel(at), pe, showLabel(pat))
		}
	}
}

// The order of need is graph.Order's, not that of labels: the least label waits for what it needs.
func TestOrderOfNeed(t *testing.T) {
	stray := "need /" + strings.Repeat("0", 52)
	w := newWorld(t)
	fine := w.lay("fine", float("file out x"))
	_, r := w.sorted(false, fine, func(i int) api.Recipe { return float(fmt.Sprint("file out ", i), stray) })
	late := w.lay("x", r)
	_, r = w.sorted(true, fine, func(i int) api.Recipe { return asking(float(fmt.Sprint("file out ", i), stray), fine, "out") })
	early := w.lay("x", r)
	// early < fine < late: fine comes first, behind it early is free.
	w.defect("P14.3: 4", api.ErrInput, early, want(late), want(early))
	_, r = w.sorted(true, early, func(i int) api.Recipe {
		return asking(recipeOf(2, "out", fmt.Sprint("file out ", i), stray), late, "out")
	})
	first := w.lay("x", r)
	// first is the least, but needs late.
	w.defect("P14.3: 4", api.ErrInput, late, want(first))
	w.defect("P14.3: 4", api.ErrInput, early, want(first), want(early))
}
