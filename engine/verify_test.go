package engine

import (
	"fmt"
	"slices"
	"strings"
	"testing"

	"graft/api"
	"graft/digest"
	"graft/label"
)

// renamedAs is an object under another label.
func renamedAs(o api.Object, l api.Label) api.Object {
	o.Label = l
	return o
}

// laid is objects on both shelves by hand.
func laid(t *testing.T, objects ...api.Object) *both {
	t.Helper()
	b := bothOn(t, api.Disk{}, wide)
	b.lay(objects...)
	return b
}

// wrong holds that an object is not what its label says, by pieces of any length; other is the guest that it refers to, if it is that.
func (b *both) wrong(what string, l, other api.Label) {
	b.t.Helper()
	for _, chunk := range []int{1, 2, 7, 31, 32, 33, 120, 1 << 62} {
		before := b.state()
		if out := b.verify(l, chunk); show(out) != show(api.Outcome{Err: api.ErrWrong, At: l, Other: other}) || b.state() != before {
			b.t.Errorf("P15.7: %s: %s", what, show(out))
		}
	}
}

func (b *both) right(what string, l api.Label) {
	b.t.Helper()
	for _, chunk := range []int{1, 2, 7, 31, 32, 33, 120, 1 << 62} {
		before := b.state()
		if out := b.verify(l, chunk); show(out) != show(api.Outcome{}) || b.state() != before {
			b.t.Errorf("P15.7: %s: %s", what, show(out))
		}
	}
}

func TestVerifyNone(t *testing.T) {
	b := newBoth(t, holding(la, "a"))
	for _, l := range []api.Label{lb, {}, {Hash: la.Hash, Name: "b"}} {
		if out := b.verify(l, 3); show(out) != show(api.Outcome{Err: api.ErrNone}) {
			t.Errorf("P15.7: %s", show(out))
		}
	}
	b.right("a guest", la)
	for _, chunk := range []int{0, -1, -1 << 63} {
		for _, l := range []api.Label{la, lb} {
			if out := b.verify(l, chunk); show(out) != show(api.Outcome{Err: api.ErrArg}) {
				t.Errorf("P15.7: %s", show(out))
			}
		}
	}
	// A guest is right, whatever it is called, holds and refers to.
	text := ownText("t", "text")
	b = laid(t, renamedAs(holding(la, "x"), text.Label), holding(lc, "c", lb, lc), holding(lb, "", lc))
	b.right("a guest under a text's label", text.Label)
	b.right("a guest in a ring", lb)
}

func TestVerifyText(t *testing.T) {
	one, two := ownText("one", "1"), ownTree("two", dir())
	g, h := holding(la, "g"), holding(lb, "h")
	both := part(one.Label) + part(two.Label)
	x := ownText("x", both, one.Label, two.Label)
	asCa := func(o api.Object, ca api.Ca) api.Object { o.Ca = ca; return o }
	b := laid(t, one, two, g, h, x)
	b.right("a text", one.Label)
	b.right("a text with references", x.Label)
	b.right("a text that mentions nothing of what it refers to", laidIn(b, ownText("y", "no", one.Label, two.Label)))
	for what, o := range map[string]api.Object{
		"other bytes":      {Label: ownText("o", "x").Label, Ark: file("y")},
		"executable":       {Label: ownText("e", "x").Label, Ark: arkOf(program("x"))},
		"a link":           {Label: ownText("l", "x").Label, Ark: arkOf(link("x"))},
		"a link, empty":    {Label: ownText("le", "").Label, Ark: arkOf(link("x"))},
		"a directory":      {Label: ownText("d", "").Label, Ark: arkOf(dir())},
		"in a directory":   {Label: ownText("id", "x").Label, Ark: arkOf(dir(entry("f", fileNode("x"))))},
		"fewer references": {Label: ownText("f", both, one.Label, two.Label).Label, Ark: file(both), Refs: []api.Label{one.Label}},
		"more references":  {Label: ownText("m", both, one.Label).Label, Ark: file(both), Refs: sorted(one.Label, two.Label)},
		"itself too":       {Label: ownText("i", "x").Label, Ark: file("x"), Refs: []api.Label{ownText("i", "x").Label}},
		"another name":     {Label: api.Label{Hash: ownText("n", "x").Label.Hash, Name: "m"}, Ark: file("x")},
		"another kind":     {Label: ownTree("k", fileNode("x")).Label, Ark: file("x")},
		"flat":             {Label: ownFlat("k", "x").Label, Ark: file("x")},
		"a hash of none":   {Label: named(77, "h"), Ark: file("x")},
	} {
		b.wrong(what, laidIn(b, asCa(o, api.ByText)), api.Label{})
	}
	// Guests among the references: the first of them, if all else is right.
	first, second := sorted(g.Label, h.Label)[0], sorted(g.Label, h.Label)[1]
	b.wrong("a guest", laidIn(b, ownText("g", "x", second)), second)
	b.wrong("two guests among others", laidIn(b, ownText("g", "x", second, one.Label, first, two.Label)), first)
	b.wrong("a guest behind others", laidIn(b, ownText("g2", "x", second, one.Label, two.Label)), second)
	last := named(255, "last")
	b.lay(holding(last, "l"))
	b.wrong("a guest behind own ones", laidIn(b, ownText("g3", "x", one.Label, two.Label, last)), last)
	b.wrong("the first of two behind own ones", laidIn(b, ownText("g4", "x", one.Label, two.Label, last, laidIn(b, holding(named(254, "k"), "k")))), named(254, "k"))
	b.wrong("a guest, and other bytes", laidIn(b, api.Object{Label: ownText("gb", "x", second).Label, Ark: file("y"), Refs: []api.Label{second}, Ca: api.ByText}), api.Label{})
}

// laidIn lays an object: its label.
func laidIn(b *both, o api.Object) api.Label {
	b.t.Helper()
	b.lay(o)
	return o.Label
}

func TestVerifySource(t *testing.T) {
	one := ownText("one", "1")
	b := laid(t, one, holding(la, "g"))
	for i, n := range []api.Node{dir(), fileNode(""), fileNode("x"), program("x"), link("x"), dir(entry("a", program("b"))), fileNode(part(one.Label))} {
		b.right(fmt.Sprint("tree ", i), laidIn(b, ownTree("t", n)))
	}
	refs := func(o api.Object, refs ...api.Label) api.Object { o.Refs = refs; return o }
	for what, o := range map[string]api.Object{
		"references":        refs(ownTree("r", fileNode(part(one.Label))), one.Label),
		"a guest":           refs(ownTree("g", fileNode(part(la))), la),
		"itself":            refs(ownTree("s", fileNode("x")), ownTree("s", fileNode("x")).Label),
		"another tree":      {Label: ownTree("o", fileNode("x")).Label, Ark: file("y")},
		"its bytes' sum":    {Label: label1(label.Source("b", digest.Of([]byte("x")), nil, false)), Ark: file("x")},
		"with self":         {Label: label1(label.Source("w", digest.Of(file("x")), nil, true)), Ark: file("x")},
		"with references":   refs(api.Object{Label: label1(label.Source("wr", digest.Of(file("x")), []api.Label{one.Label}, false)), Ark: file("x")}, one.Label),
		"called so":         {Label: label1(label.Source("cr", digest.Of(file("x")), []api.Label{one.Label}, false)), Ark: file("x")},
		"another name":      {Label: api.Label{Hash: ownTree("n", fileNode("x")).Label.Hash, Name: "m"}, Ark: file("x")},
		"as a text":         {Label: ownText("k", "x").Label, Ark: file("x")},
		"as a flat one":     {Label: ownFlat("k", "x").Label, Ark: file("x")},
		"as a group of one": {Label: groupOfOne("k", file("x")), Ark: file("x")},
	} {
		o.Ca = api.BySource
		b.wrong(what, laidIn(b, o), api.Label{})
	}
}

func label1(l api.Label, e api.Errno) api.Label {
	if e != api.OK {
		panic("no label")
	}
	return l
}

// groupOfOne is what an object is called by its group, if it does not mention itself.
func groupOfOne(name string, data []byte, refs ...api.Label) api.Label {
	return plainCall(string(fingerText(name, data, refs...)), name)
}

func TestVerifyFlat(t *testing.T) {
	one := ownText("one", "1")
	b := laid(t, one)
	for _, text := range []string{"", "x", part(one.Label), strings.Repeat("long", 1000)} {
		b.right("flat", laidIn(b, ownFlat("f", text)))
	}
	refs := func(o api.Object, refs ...api.Label) api.Object { o.Refs = refs; return o }
	for what, o := range map[string]api.Object{
		"references":     refs(ownFlat("r", part(one.Label)), one.Label),
		"itself":         refs(ownFlat("s", "x"), ownFlat("s", "x").Label),
		"executable":     {Label: ownFlat("e", "x").Label, Ark: arkOf(program("x"))},
		"a link":         {Label: ownFlat("l", "").Label, Ark: arkOf(link("x"))},
		"a directory":    {Label: ownFlat("d", "").Label, Ark: arkOf(dir())},
		"other bytes":    {Label: ownFlat("o", "x").Label, Ark: file("y")},
		"not flat":       {Label: label1(label.Fixed("n", digest.Of(file("x")), false)), Ark: file("x")},
		"its bytes, not": {Label: label1(label.Fixed("b", digest.Of([]byte("x")), false)), Ark: file("x")},
		"another name":   {Label: api.Label{Hash: ownFlat("n", "x").Label.Hash, Name: "m"}, Ark: file("x")},
		"as a text":      {Label: ownText("k", "x").Label, Ark: file("x")},
		"of the archive": {Label: label1(label.Fixed("a", digest.Of(file("x")), true)), Ark: file("x")},
	} {
		o.Ca = api.ByFlat
		b.wrong(what, laidIn(b, o), api.Label{})
	}
}

// ringOf is a ring of own objects, as a renaming makes it.
func ringOf(t *testing.T, plan string, own ...api.Object) []api.Object {
	t.Helper()
	w := newWorld(t)
	w.lay(own...)
	objects, labels := closureOf(sourceOf(9), plan)
	for _, o := range own {
		labels[o.Label.Name] = o.Label
	}
	for i, word := range strings.Fields(plan) {
		name, holds, _ := strings.Cut(word, ":")
		objects[i] = planned(labels, name, holds)
	}
	w.take(objects...)
	r := w.rename(labelsIn(objects)...)
	var out []api.Object
	for _, o := range objects {
		x, _ := w.e.Read(r[o.Label])
		out = append(out, x)
	}
	return out
}

func TestVerifyGroup(t *testing.T) {
	own := ownText("own", "own")
	for _, plan := range []string{"a:hi", "a:a", "a:own,x", "a:own,a", "a:b b:a", "a:b,own b:a,b,own", "a:b b:c,own c:a,a", "a:b b:a,c c:d d:c,e e:e"} {
		ring := ringOf(t, plan, own)
		b := laid(t, append(ring, own)...)
		for _, o := range ring {
			b.right(plan, o.Label)
		}
		// Others that refer to them, or that they lead to, are no members.
		b.take([]api.Object{holding(la, part(ring[0].Label), ring[0].Label), holding(lb, "x", ring[0].Label, lb)}, 5)
		b.lay(ownText("r", part(ring[0].Label), ring[0].Label))
		for _, o := range ring {
			b.right(plan+", with referrers", o.Label)
		}
		// One that is changed: it and all of its group, and no other.
		for i, o := range ring {
			for what, change := range map[string]func(o *api.Object){
				"another text":   func(o *api.Object) { o.Ark = file("changed" + partsIn(o)) },
				"executable":     func(o *api.Object) { o.Ark = arkOf(program(textIn(o))) },
				"one more ref":   func(o *api.Object) { o.Refs = sorted(append(o.Refs, ownText("more", "more").Label)...) },
				"a guest as ref": func(o *api.Object) { o.Refs = sorted(append(o.Refs, la)...) },
			} {
				changed := slices.Clone(ring)
				change(&changed[i])
				b := laid(t, append(changed, own, ownText("more", "more"), holding(la, "guest"))...)
				for _, x := range changed {
					if slices.Contains(b.plain.group(o.Label), x.Label) {
						b.wrong(plan+": "+what, x.Label, api.Label{})
					} else {
						b.right(plan+": "+what, x.Label)
					}
				}
			}
		}
	}
}

func textIn(o *api.Object) string {
	n, _, _ := readTree(o.Ark, 100)
	return string(n.Data)
}

// partsIn is the hash parts of an object's references, as they stand in it.
func partsIn(o *api.Object) string { return strings.Join(partsOf(o.Refs), "") }

// P15.7: a member that is not by a group, though all its bytes are right.
func TestVerifyMemberKinds(t *testing.T) {
	ring := ringOf(t, "a:b b:c c:a")
	for _, ca := range []api.Ca{api.Guest, api.ByText, api.BySource, api.ByFlat} {
		for i := range ring {
			changed := slices.Clone(ring)
			changed[i].Ca = ca
			b := laid(t, changed...)
			for k, o := range changed {
				if k != i {
					b.wrong(fmt.Sprint("a member by ", ca), o.Label, api.Label{})
				} else if ca == api.Guest {
					b.right("the guest itself", o.Label)
				} else {
					b.wrong(fmt.Sprint("it is by ", ca), o.Label, api.Label{})
				}
			}
		}
	}
}

// P15.7: labels that are another's: of another place, another name, another member.
func TestVerifyMemberLabels(t *testing.T) {
	data := file("hi")
	n := groupText("x", data)
	sum := digest.Of(n)
	for what, l := range map[string]api.Label{
		"another place": label1(label.Member(sum, 1, "x")), "another name": label1(label.Member(sum, 0, "y")), "another name behind": {Hash: label1(label.Member(sum, 0, "x")).Hash, Name: "y"},
		"another group": label1(label.Member(digest.Of(groupText("x", file("ho"))), 0, "x")), "its archive": label1(label.Member(digest.Of(data), 0, "x")), "a source": ownTree("x", fileNode("hi")).Label,
		"a text": ownText("x", "hi").Label, "by hand": named(66, "x"),
	} {
		b := laid(t, api.Object{Label: l, Ark: data, Ca: api.ByGroup})
		b.wrong(what, l, api.Label{})
	}
	b := laid(t, api.Object{Label: label1(label.Member(sum, 0, "x")), Ark: data, Ca: api.ByGroup})
	b.right("it", label1(label.Member(sum, 0, "x")))
	// Places in a ring go by names: with the labels of two exchanged both are wrong.
	ring := ringOf(t, "b:a a:b")
	B, A := ring[0].Label, ring[1].Label
	b = laid(t, api.Object{Label: A, Ark: file(part(B)), Refs: []api.Label{B}, Ca: api.ByGroup}, api.Object{Label: B, Ark: file(part(A)), Refs: []api.Label{A}, Ca: api.ByGroup})
	b.right("a ring", A)
	b.right("a ring", B)
	b = laid(t, api.Object{Label: A, Ark: file(part(A)), Refs: []api.Label{A}, Ca: api.ByGroup}, api.Object{Label: B, Ark: file(part(B)), Refs: []api.Label{B}, Ca: api.ByGroup})
	b.wrong("two that mention themselves", A, api.Label{})
	b.wrong("two that mention themselves", B, api.Label{})
}

// P15.7: a label that is right, and a reference to a guest.
func TestVerifyGuestRefs(t *testing.T) {
	g, h := la, lb
	own := ownText("o", "own")
	for _, refs := range [][]api.Label{{h}, {g, h}, {own.Label, h}, {g, own.Label, h}} {
		data := file(strings.Join(partsOf(refs), " "))
		l := groupOfOne("x", data, sorted(refs...)...)
		b := laid(t, holding(g, "g"), holding(h, "h"), own, api.Object{Label: l, Ark: data, Refs: sorted(refs...), Ca: api.ByGroup})
		first := slices.DeleteFunc(sorted(refs...), func(l api.Label) bool { return l == own.Label })[0]
		b.wrong("guests", l, first)
	}
	// Of a member alone that refers to it.
	w := laid(t, holding(g, "g"))
	members := []plainMember{
		{label: named(1, "a"), data: file("1" + part(lc)), mentions: []plainMention{{fileAt + 1, named(2, "b")}}, refs: []api.Label{g}},
		{label: named(2, "b"), data: file("2" + part(lc)), mentions: []plainMention{{fileAt + 1, named(1, "a")}}},
	}
	text := plainGroupText(members)
	A, B := plainCall(plainFinger(text, 0, "a"), "a"), plainCall(plainFinger(text, 1, "b"), "b")
	w.lay(api.Object{Label: A, Ark: file("1" + part(B)), Refs: sorted(B, g), Ca: api.ByGroup}, api.Object{Label: B, Ark: file("2" + part(A)), Refs: []api.Label{A}, Ca: api.ByGroup})
	w.wrong("a member with a guest", A, g)
	w.right("the other member", B)
}

// P15.7: more than MaxGroup members, two with one name, mentions that overlap, references without mentions, mentions in names.
func TestVerifyGroupShapes(t *testing.T) {
	byGroup := func(list []api.Object) []api.Object {
		for i := range list {
			list[i].Ca = api.ByGroup
		}
		return list
	}
	great := byGroup(side('3').ring(65, func(i int) string { return fmt.Sprint("n", i) }))
	b := laid(t, great...)
	b.wrong("65 members", great[9].Label, api.Label{})
	var star []api.Object
	for i := range 200 {
		star = append(star, holding(numbered(i, "n"), "x", numbered((i+1)%200, "n"), numbered(0, "n")))
	}
	b = laid(t, byGroup(star)...)
	b.wrong("200 members", star[0].Label, api.Label{})
	twins := byGroup(side('3').ring(3, func(i int) string { return []string{"a", "b", "a"}[i] }))
	b = laid(t, twins...)
	b.wrong("twins", twins[1].Label, api.Label{})
	zero := named(0, "zero")
	for _, n := range []int{33, 1 << 18} {
		b = laid(t, api.Object{Label: zero, Ark: file(strings.Repeat("0", n)), Refs: []api.Label{zero}, Ca: api.ByGroup})
		if out := b.verify(zero, 1000); show(out) != show(api.Outcome{Err: api.ErrWrong, At: zero}) {
			t.Errorf("P15.7: %s", show(out))
		}
	}
	// 64 members, as a renaming makes them.
	w := newWorld(t, side('3').ring(api.MaxGroup, func(i int) string { return fmt.Sprint("n", i) })...)
	for _, l := range w.rename(w.e.Shelf().List()...) {
		if out := w.e.Verify(l, 50); show(out) != show(api.Outcome{}) {
			t.Errorf("P15.7: %s", show(out))
		}
	}
	// What is in the group and not mentioned is nothing that the name says.
	one := groupOfOne("x", file("hi"))
	b = laid(t, api.Object{Label: one, Ark: file("hi"), Refs: []api.Label{one}, Ca: api.ByGroup})
	b.right("itself, not mentioned", one)
	// A mention in a name is one, too: it is masked as any other.
	data := arkOf(dir(entry("f"+part(la), link("x"))))
	at := placeOf(data, part(la))
	text := plainGroupText([]plainMember{{label: api.Label{Name: "x"}, data: data, mentions: []plainMention{{at, api.Label{Name: "x"}}}}})
	l := plainCall(plainFinger(text, 0, "x"), "x")
	b = laid(t, api.Object{Label: l, Ark: arkOf(dir(entry("f"+part(l), link("x")))), Refs: []api.Label{l}, Ca: api.ByGroup})
	b.right("a mention in a name", l)
	b.rewrite(3, l)
}

// Objects by hand, of all kinds, that refer to one another as they like: Verify and Rewrite end, and Verify is as the plain reading.
func TestVerifyBy(t *testing.T) {
	source := sourceOf(4)
	seen := map[string]int{}
	rings := slices.Concat(ringOf(t, "a:b b:a"), ringOf(t, "a:a"), ringOf(t, "a:b b:b"))
	for range 400 {
		labels := labelsBy(source, 2+source.IntN(5))
		c := &chance{source: source, labels: labels, wrong: 4}
		objects := c.guests()
		for i := range objects {
			objects[i].Ca = api.Ca(source.IntN(5))
		}
		objects = append(objects, pick(source, ownText("t", "x"), ownText("t", part(labels[0]), labels[0]), ownFlat("f", "x"), ownTree("s", dir())))
		objects = append(objects, rings...)
		objects = slices.CompactFunc(slices.SortedFunc(slices.Values(objects), func(x, y api.Object) int { return label.Compare(x.Label, y.Label) }), func(x, y api.Object) bool { return x.Label.Hash == y.Label.Hash })
		b := laid(t, objects...)
		for _, o := range objects {
			out := b.verify(o.Label, pick(source, 1, 2, 32, 1000))
			seen[fmt.Sprint(out.Err, out.Other != api.Label{})]++
			b.lookup(o.Label)
			// Own ones may refer to guests here: it ends.
			b.again(wide).e.Rewrite([]api.Label{o.Label, pick(source, labels...)}, 5)
		}
	}
	for _, x := range []string{"0 false", "156 false", "156 true"} {
		if seen[x] < 10 {
			t.Errorf("%s: %d times", x, seen[x])
		}
	}
}
