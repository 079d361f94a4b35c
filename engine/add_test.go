package engine

import (
	"slices"
	"strings"
	"testing"

	"graft/api"
	"graft/ark"
	"graft/label"
)

func (w *world) adding(name, data string, refs ...api.Label) func() api.Outcome {
	return func() api.Outcome { return w.e.AddText(name, []byte(data), refs) }
}

func (w *world) planting(name string, n api.Node) func() api.Outcome {
	return func() api.Outcome { return w.e.AddTree(name, n) }
}

// called is what a text is called.
func called(t *testing.T, name, data string, refs ...api.Label) api.Label {
	t.Helper()
	l, e := label.Text(name, []byte(data), refs)
	if e != api.OK {
		t.Fatalf("P2.12: %d", e)
	}
	return l
}

// P15.3: what is put on the shelf.
func TestAddText(t *testing.T) {
	w := newWorld(t)
	one, two := w.text("one", "1"), w.text("two", "2")
	tree, empty := w.tree("tree", dir()), w.text("empty", "")
	w.lay(ownFlat("flat", "f"))
	flat := ownFlat("flat", "f").Label
	data := part(two) + "x" + part(one) + part(tree) + part(flat) + part(one)
	count := w.e.Shelf().Last()
	for _, refs := range [][]api.Label{{two, one}, {one, two, one, two}, {one, two}} {
		if l := w.text("t", data, refs...); l != called(t, "t", data, one, two) {
			t.Errorf("P15.3: %s", showLabel(l))
		}
	}
	l := w.text("t", data, tree, two, one, flat)
	for _, x := range []struct {
		l    api.Label
		refs []api.Label
		data string
	}{{called(t, "t", data, one, two), sorted(one, two), data}, {l, sorted(one, two, tree, flat), data}, {empty, nil, ""}} {
		o, e := w.e.Read(x.l)
		if e != api.OK || showObject(o) != showObject(api.Object{Label: x.l, Refs: x.refs, Ark: file(x.data), Ca: api.ByText}) {
			t.Errorf("P15.3: %s, %d", showObject(o), e)
		}
		if out := w.e.Verify(x.l, 6); show(out) != show(api.Outcome{}) {
			t.Errorf("P15.7: %s", show(out))
		}
	}
	if w.e.Shelf().Last() != count+2 {
		t.Errorf("P15.3: %d transactions", w.e.Shelf().Last()-count)
	}
	// With own objects of a renamed group.
	w.take(holding(la, part(lb), lb), holding(lb, part(la), la))
	A := w.rename(la)[la]
	if x := w.text("a", part(A), A); !slices.Equal(w.refs(x), []api.Label{A}) {
		t.Errorf("P15.3: %s", showLabels(w.refs(x)))
	}
}

// P15.3: each error alone, and two at once.
func TestAddTextErrors(t *testing.T) {
	w := newWorld(t, holding(la, "a"))
	own, other := w.text("own", "own"), w.text("other", "other")
	first, second := sorted(own, other)[0], sorted(own, other)[1]
	big := strings.Repeat("x", api.MaxArk-112+1)
	no := named(9, "no")
	fails := func(what string, e api.Errno, name, data string, refs ...api.Label) {
		t.Helper()
		w.refuses("P15.3: "+what, w.adding(name, data, refs...), api.Outcome{Err: e})
	}
	// label.Text's, ahead of all else.
	for _, data := range []string{"x", big} {
		fails("no name", api.ErrName, "", data)
		fails("a point ahead, and references that are none", api.ErrName, ".x", data, no, api.Label{})
		fails("a long name", api.ErrLong, strings.Repeat("n", 212), data)
		fails("a name, and too many references", api.ErrName, "a b", data, many(257)...)
		fails("too many references", api.ErrLong, "x", data, many(257)...)
		fails("too many references, though they are one", api.ErrLong, "x", data, slices.Repeat([]api.Label{own}, 257)...)
		fails("a reference without a name", api.ErrName, "x", data, own, api.Label{Hash: own.Hash}, no)
		fails("a reference with a long name", api.ErrLong, "x", data, api.Label{Name: strings.Repeat("n", 212)})
	}
	told := func(what string, e api.Errno, other api.Label, data string, refs ...api.Label) {
		t.Helper()
		w.refuses("P15.3: "+what, w.adding("x", data, refs...), api.Outcome{Err: e, At: called(t, "x", data, refs...), Other: other})
	}
	told("too large", api.ErrLarge, api.Label{}, big)
	told("too large, and a reference that is not there", api.ErrLarge, api.Label{}, big, no)
	told("too large, and a reference that is not mentioned", api.ErrLarge, api.Label{}, big, own)
	told("not there", api.ErrDangling, no, part(no), no)
	told("a guest", api.ErrDangling, la, part(la), la)
	told("another name", api.ErrDangling, api.Label{Hash: own.Hash, Name: "x"}, part(own), api.Label{Hash: own.Hash, Name: "x"})
	told("the first that is not there", api.ErrDangling, la, part(own), no, own, la, named(8, "no"))
	told("not mentioned, and behind it not there", api.ErrDangling, named(255, "z"), "", own, named(255, "z"), other)
	told("not mentioned", api.ErrScan, own, "", own)
	told("not mentioned but for a digit", api.ErrScan, own, part(own)[:31]+part(other), own, other)
	told("the first that is not mentioned", api.ErrScan, first, "", second, first)
	told("the second alone", api.ErrScan, second, part(first), second, first)
	// No room and no number.
	full, last := w.full(), w.last()
	l := called(t, "x", "x")
	full.refuses("P15.3: no room", full.adding("x", "x"), api.Outcome{Err: api.ErrFull, At: l})
	full.refuses("P15.3: no room, and not mentioned", full.adding("x", "x", own), api.Outcome{Err: api.ErrScan, At: called(t, "x", "x", own), Other: own})
	full.refuses("P15.3: no room, there already", full.adding("own", "own"), api.Outcome{At: own})
	last.refuses("P15.3: no number", last.adding("x", "x"), api.Outcome{Err: api.ErrEnd, At: l})
	last.refuses("P15.3: no number, there already", last.adding("own", "own"), api.Outcome{At: own})
}

// P15.3: 256 references, which the text mentions.
func TestAddTextRefs(t *testing.T) {
	w := newWorld(t)
	var refs []api.Label
	for i := range 256 {
		refs = append(refs, w.text("t", strings.Repeat("x", i)))
	}
	all := strings.Join(partsOf(refs), "")
	l := w.text("all", all, refs...)
	if len(w.refs(l)) != 256 {
		t.Errorf("P15.3: %d references", len(w.refs(l)))
	}
	left := sorted(refs...)[77]
	w.refuses("P15.3: all but one", w.adding("all", strings.Replace(all, part(left), "", 1), refs...),
		api.Outcome{Err: api.ErrScan, At: called(t, "all", strings.Replace(all, part(left), "", 1), refs...), Other: left})
}

// P15.3: MaxArk bytes of archive, and one more; with a reference at the very end.
func TestAddTextLargest(t *testing.T) {
	w := newWorld(t)
	own := w.text("own", "own")
	const room = api.MaxArk - 112
	for _, n := range []int{room - 8, room - 1, room} {
		data := strings.Repeat("0", n-32) + part(own)
		l := w.text("big", data, own)
		if o, _ := w.e.Read(l); len(o.Ark) != 112+(n+7)/8*8 || w.bytes(l) != data {
			t.Errorf("P15.3: %d bytes", len(o.Ark))
		}
		if out := w.e.Verify(l, 4096); show(out) != show(api.Outcome{}) {
			t.Errorf("P15.7: %s", show(out))
		}
	}
	data := strings.Repeat("0", room+1)
	w.refuses("P15.3: one more", w.adding("big", data), api.Outcome{Err: api.ErrLarge, At: called(t, "big", data)})
	// Very many mentions that overlap.
	zero := named(0, "z")
	w.lay(api.Object{Label: zero, Ark: file("z"), Ca: api.ByText})
	w.text("zeros", data[1:], zero)
}

// P15.3 and P15.4: a guest that came with that label or hash part.
func TestAddThere(t *testing.T) {
	l := called(t, "t", "text")
	tree := ownTree("d", dir()).Label
	renamed := func(l api.Label) api.Label { return api.Label{Hash: l.Hash, Name: "other"} }
	w := newWorld(t, holding(l, "text"), guest(tree, arkOf(dir())))
	w.refuses("P15.3: a guest with that label", w.adding("t", "text"), api.Outcome{Err: api.ErrThere, At: l, Other: l})
	w.refuses("P15.4: a guest with that label", w.planting("d", dir()), api.Outcome{Err: api.ErrThere, At: tree, Other: tree})
	w = newWorld(t, holding(renamed(l), "text"), holding(renamed(tree), "x"))
	w.refuses("P15.3: a guest with that hash part", w.adding("t", "text"), api.Outcome{Err: api.ErrClash, At: l, Other: renamed(l)})
	w.refuses("P15.4: a guest with that hash part", w.planting("d", dir()), api.Outcome{Err: api.ErrClash, At: tree, Other: renamed(tree)})
	full := w.full()
	full.refuses("P15.3: on a full journal", full.adding("t", "text"), api.Outcome{Err: api.ErrClash, At: l, Other: renamed(l)})
	// Own ones that were laid there by hand, with other content, or another kind.
	w = newWorld(t)
	w.lay(api.Object{Label: l, Ark: file("other"), Ca: api.ByText}, api.Object{Label: tree, Ark: arkOf(dir()), Ca: api.ByGroup})
	w.refuses("P15.3: other content", w.adding("t", "text"), api.Outcome{Err: api.ErrThere, At: l, Other: l})
	w.refuses("P15.4: another kind", w.planting("d", dir()), api.Outcome{Err: api.ErrThere, At: tree, Other: tree})
	// One with a maker is another one.
	w = newWorld(t)
	w.lay(api.Object{Label: l, Ark: file("text"), Ca: api.ByText, Maker: textOf(la)})
	w.refuses("P15.3: with a maker", w.adding("t", "text"), api.Outcome{Err: api.ErrThere, At: l, Other: l})
	// A full shelf.
	w = newWorld(t, guests(many(api.MaxObjects-1))...)
	own := w.text("own", "own")
	w.refuses("P15.3: a full shelf", w.adding("t", "text"), api.Outcome{Err: api.ErrFull, At: l})
	w.refuses("P15.4: a full shelf", w.planting("d", dir()), api.Outcome{Err: api.ErrFull, At: tree})
	w.refuses("P15.3: a full shelf, there already", w.adding("own", "own"), api.Outcome{At: own})
}

// P15.4: what is put on the shelf.
func TestAddTree(t *testing.T) {
	w := newWorld(t)
	for i, n := range []api.Node{fileNode("x"), program("x"), link("x"), dir(), dir(entry("a", fileNode("1")), entry("b", dir(entry("c", link("d")))))} {
		want := ownTree("tree", n)
		before := w.e.Shelf().Last()
		out := w.e.AddTree("tree", n)
		if show(out) != show(api.Outcome{At: want.Label}) || w.e.Shelf().Last() != before+1 {
			t.Errorf("P15.4: %d: %s", i, show(out))
		}
		if o, e := w.e.Read(want.Label); e != api.OK || showObject(o) != showObject(want) {
			t.Errorf("P15.4: %d: %s, %d", i, showObject(o), e)
		}
		if out := w.e.Verify(want.Label, 6); show(out) != show(api.Outcome{}) {
			t.Errorf("P15.7: %d: %s", i, show(out))
		}
		w.refuses("P15.4: once more", w.planting("tree", n), api.Outcome{At: want.Label})
		full, last := w.full(), w.last()
		full.refuses("P15.4: once more, no room", full.planting("tree", n), api.Outcome{At: want.Label})
		last.refuses("P15.4: once more, no number", last.planting("tree", n), api.Outcome{At: want.Label})
		full.refuses("P15.4: no room", full.planting("other", n), api.Outcome{Err: api.ErrFull, At: ownTree("other", n).Label})
		last.refuses("P15.4: no number", last.planting("other", n), api.Outcome{Err: api.ErrEnd, At: ownTree("other", n).Label})
	}
}

// P15.4: each error alone, and two at once.
func TestAddTreeErrors(t *testing.T) {
	w := newWorld(t)
	round := api.Node{Kind: api.KindDir, List: make([]api.Entry, 1)}
	round.List[0] = entry("in", round)
	deep := fileNode("x")
	for range api.MaxDepth {
		deep = dir(entry("d", deep))
	}
	for what, n := range map[string]api.Node{
		"no kind": {}, "unused": {Kind: api.KindDir, Link: "x"}, "a link to nothing": link(""), "no order": dir(entry("b", link("x")), entry("a", link("x"))),
		"a name": dir(entry("a/b", link("x"))), "too deep": deep, "in itself": round, "too large": fileNode(strings.Repeat("x", api.MaxArk-111)),
	} {
		e, _ := ark.Check(n)
		if e == api.OK {
			t.Fatalf("P3.1: %s", what)
		}
		w.refuses("P15.4: "+what, w.planting("x", n), api.Outcome{Err: e})
		w.refuses("P15.4: "+what+", and no name", w.planting("", n), api.Outcome{Err: e})
	}
	w.refuses("P15.4: no name", w.planting("", dir()), api.Outcome{Err: api.ErrName})
	w.refuses("P15.4: a blank", w.planting("a b", dir()), api.Outcome{Err: api.ErrName})
	w.refuses("P15.4: a long name", w.planting(strings.Repeat("n", 212), dir()), api.Outcome{Err: api.ErrLong})
	full := w.full()
	full.refuses("P15.4: no name, no room", full.planting("", dir()), api.Outcome{Err: api.ErrName})
	w.tree(strings.Repeat("n", 211), fileNode(strings.Repeat("x", api.MaxArk-112)))
}
