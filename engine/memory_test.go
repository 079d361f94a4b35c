package engine

import (
	"fmt"
	"slices"
	"testing"

	"graft/api"
)

// roomyObjects is objects whose lists have room behind them.
func roomyObjects(objects ...api.Object) []api.Object {
	for i, o := range objects {
		objects[i].Ark, objects[i].Refs = roomy(o.Ark, '!'), roomy(o.Refs, named(99, "room"))
	}
	return roomy(objects, api.Object{Maker: "!"})
}

// wholeObjects is all of objects, the room behind their lists too.
func wholeObjects(objects []api.Object) string {
	out := ""
	for _, o := range objects[:cap(objects)] {
		out += fmt.Sprintf("%v %v %q %q %d\n", o.Label, o.Refs[:cap(o.Refs)], o.Ark[:cap(o.Ark)], o.Maker, o.Ca)
	}
	return out
}

func overwriteObjects(objects []api.Object) {
	for _, o := range objects {
		overwrite(o.Ark, '?')
		overwrite(o.Refs, named(98, "over"))
	}
	overwrite(objects, api.Object{Maker: "?"})
}

// What Import is handed stays as it was, its spare room too, and is not kept; with an error too.
func TestImportMemory(t *testing.T) {
	right := func() []api.Object {
		return roomyObjects(holding(la, part(lb)+part(la), la, lb), holding(lb, "b"), holding(lb, "b"))
	}
	dangling := func() []api.Object { return roomyObjects(holding(la, "a", lb), holding(lc, "c")) }
	broken := func() []api.Object { return roomyObjects(holding(lc, "c"), guest(la, file("a")[:100], lb)) }
	for what, objects := range map[string][]api.Object{"right": right(), "dangling": dangling(), "broken": broken(), "unfit": roomyObjects(holding(la, "a", la), api.Object{Refs: []api.Label{lb, la}})} {
		w := newWorld(t)
		before := wholeObjects(objects)
		out := w.e.Import(objects, 3)
		if wholeObjects(objects) != before {
			t.Errorf("Import, %s: what was handed in has changed", what)
		}
		state, told := w.state(), show(out)
		overwriteObjects(objects)
		if w.state() != state || show(out) != told {
			t.Errorf("Import, %s: what was handed in is kept", what)
		}
		if out.Err == api.OK {
			w.rename(la)
		}
	}
	// Objects that share memory with one another.
	data := slices.Concat(file("1"), file("2"))
	refs := sorted(la, lb)
	w := newWorld(t, api.Object{Label: la, Ark: data[:120], Refs: refs[:1]}, api.Object{Label: lb, Ark: data[120:], Refs: refs}, api.Object{Label: lc, Ark: data[:120], Refs: refs[1:]})
	if w.bytes(lb) != "2" || w.bytes(lc) != "1" || !slices.Equal(w.refs(lb), refs) {
		t.Error("Import: objects that share memory")
	}
}

func TestAddMemory(t *testing.T) {
	w := newWorld(t)
	own, other := w.text("own", "own"), w.text("other", "other")
	data := roomy([]byte(part(own)+part(other)), '!')
	refs := roomy([]api.Label{sorted(own, other)[1], sorted(own, other)[0], own}, named(99, "room"))
	before := fmt.Sprintf("%q %v", data[:cap(data)], refs[:cap(refs)])
	for what, call := range map[string]func() api.Outcome{
		"right": func() api.Outcome { return w.e.AddText("t", data, refs) }, "not mentioned": func() api.Outcome { return w.e.AddText("t", data[:40], refs) }, "dangling": func() api.Outcome { return w.e.AddText("t", data, append(refs[:2:2], la)) },
		"no name": func() api.Outcome { return w.e.AddText("", data, refs) },
	} {
		call()
		if fmt.Sprintf("%q %v", data[:cap(data)], refs[:cap(refs)]) != before {
			t.Errorf("AddText, %s: what was handed in has changed", what)
		}
	}
	state := w.state()
	overwrite(data, '?')
	overwrite(refs, named(98, "over"))
	if w.state() != state {
		t.Error("AddText: what was handed in is kept")
	}
	list := roomy([]api.Entry{entry("a", fileNode("x")), entry("b", link("y"))}, entry("!", link("!")))
	list[0].Node.Data = roomy(list[0].Node.Data, '!')
	tree := dir(list...)
	tree.List = list
	told := func() string {
		return fmt.Sprintf("%v %q", list[:cap(list)], list[0].Node.Data[:cap(list[0].Node.Data)])
	}
	before = told()
	for _, name := range []string{"d", ""} {
		w.e.AddTree(name, tree)
		if told() != before {
			t.Error("AddTree: what was handed in has changed")
		}
	}
	state = w.state()
	overwrite(list[0].Node.Data, '?')
	overwrite(list, entry("?", link("?")))
	if w.state() != state {
		t.Error("AddTree: what was handed in is kept")
	}
}

func TestRewriteMemory(t *testing.T) {
	w := newWorld(t, holding(la, part(lb)+part(la), la, lb), holding(lb, "b"), holding(lc, "c", lb))
	for what, list := range map[string][]api.Label{"right": {lb, la, lb}, "scan": {lc, la}, "none": {la, named(9, "no")}, "no roots": {}} {
		roots := roomy(list, named(99, "room"))
		before := fmt.Sprint(roots[:cap(roots)])
		out := w.e.Rewrite(roots, 3)
		if fmt.Sprint(roots[:cap(roots)]) != before {
			t.Errorf("Rewrite, %s: what was handed in has changed", what)
		}
		state, told := w.state(), show(out)
		overwrite(roots, named(98, "over"))
		if w.state() != state || show(out) != told {
			t.Errorf("Rewrite, %s: what was handed in is kept", what)
		}
	}
	// What is handed out is new memory each time.
	one, two := w.e.Rewrite([]api.Label{la}, 3), w.e.Rewrite([]api.Label{la}, 3)
	state, told := w.state(), show(two)
	overwrite(one.Map, api.Same{})
	if show(two) != told || w.state() != state || show(w.e.Rewrite([]api.Label{la}, 3)) != told {
		t.Error("Rewrite: what was handed out is kept")
	}
}

// The two texts of a clash have no memory in common, with one another or with another answer.
func TestClashMemory(t *testing.T) {
	A := groupOfOne("a", file("hi"))
	w := newWorld(t, holding(la, "hi"))
	w.lay(api.Object{Label: A, Ark: file("hi"), Refs: []api.Label{A}, Ca: api.ByGroup})
	one, two := w.e.Rewrite([]api.Label{la}, 3), w.e.Rewrite([]api.Label{la}, 3)
	state, told := w.state(), show(two)
	if one.Err != api.ErrClash || len(one.First) == 0 || string(one.First) != string(one.Second) {
		t.Fatalf("P15.5, 8: %s", show(one))
	}
	second := string(one.Second)
	overwrite(one.First, '?')
	if string(one.Second) != second {
		t.Error("P15.5, 8: First and Second share memory")
	}
	overwrite(one.Second, '?')
	if show(two) != told || w.state() != state || show(w.e.Rewrite([]api.Label{la}, 3)) != told {
		t.Error("P15.5, 8: what was handed out is kept")
	}
	r := prepared(t, w, la)
	r.objects[0].call(api.Label{Hash: A.Hash, Name: "z"})
	r.follow()
	out := r.first(r.clashing)
	text := string(out.Second)
	overwrite(out.First, '?')
	if string(out.Second) != text {
		t.Error("P15.5, 8: First and Second share memory")
	}
}

func TestReadMemory(t *testing.T) {
	w := newWorld(t, holding(la, part(lb), lb), holding(lb, part(lb), lb))
	r := w.rename(la)
	state := w.state()
	for _, l := range []api.Label{la, lb, r[la], r[lb]} {
		one, _ := w.e.Read(l)
		two, _ := w.e.Read(l)
		told := showObject(two)
		overwrite(one.Ark, '?')
		overwrite(one.Refs, named(98, "over"))
		if showObject(two) != told || w.state() != state {
			t.Error("P15.6: what was handed out is kept")
		}
	}
}
