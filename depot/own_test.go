package depot

import (
	"fmt"
	"slices"
	"strings"
	"testing"

	"graft/api"
	"graft/card"
	"graft/digest"
	"graft/label"
)

// P17.6, 4 and 5, as Pull and as Check tell them.

// comes holds that objects come in, and verify.
func comes(t *testing.T, what string, objects ...api.Object) {
	t.Helper()
	for _, how := range []string{"none", "gzip"} {
		files := packedBy(how, objects...)
		b := newBoth(t)
		b.pulls(what, files, labelsIn(objects), label.Sort(labelsIn(objects)))
		b.verifies(what)
		finds(t, what, files, api.OK, "")
	}
}

// wrong holds that an object does not come in with others, which may be there already; nor does Check take it, which knows of no shelf.
func wrong(t *testing.T, what string, o api.Object, others ...api.Object) {
	t.Helper()
	files := depotOf(append(slices.Clone(others), o)...)
	newBoth(t).refusesPull(what, files, []api.Label{o.Label}, api.ErrWrong, o.Label)
	finds(t, what, files, api.ErrWrong, cardOf(o.Label))
	finds(t, what, signed(files, home), api.ErrWrong, cardOf(o.Label), home)
}

// groupOfOne is an object as it is called by the group that it makes alone.
func groupOfOne(o api.Object) api.Object { return ownGroup(o)[0] }

func TestOwnRight(t *testing.T) {
	one, two, flat := ownText("one", "1"), ownTree("two", dir(entry("x", link("y")))), ownFlat("f", "x")
	comes(t, "a text", one)
	comes(t, "an empty text", ownText("e", ""))
	comes(t, "a text that refers", one, two, ownText("t", part(one.Label)+part(two.Label), one.Label, two.Label))
	comes(t, "a text that refers and does not mention", one, flat, ownText("t", "", one.Label, flat.Label))
	for i, n := range []api.Node{dir(), fileNode(""), fileNode("x"), program("x"), link("x"), fileNode(part(one.Label))} {
		comes(t, fmt.Sprint("tree ", i), ownTree("t", n))
	}
	comes(t, "a flat one", flat)
	comes(t, "an empty flat one", ownFlat("f", ""))
	comes(t, "a group of one", groupOfOne(holds(la, "hi")))
	comes(t, "one that mentions itself", groupOfOne(holds(la, "I am "+part(la), la)))
	comes(t, "one that refers to itself", groupOfOne(holds(la, "I am", la)))
	self := numbered(1, "a") // no piece of its hash part is a beginning of it, too
	comes(t, "one that mentions itself twice", groupOfOne(holds(self, part(self)+part(self), self)))
	comes(t, "one that mentions itself and does not refer", groupOfOne(holds(la, part(la))))
	comes(t, "one that mentions itself in a name", groupOfOne(api.Object{Label: la, Ark: arkOf(dir(entry("x"+part(la), link(part(la))))), Refs: []api.Label{la}}))
	comes(t, "a group of one that refers", one, two, groupOfOne(holds(la, part(one.Label)+part(la), one.Label, two.Label, la)))
	for _, n := range []int{2, 3, 10, api.MaxGroup} {
		comes(t, fmt.Sprint("a ring of ", n), ownGroup(ringOf(n, byNumber)...)...)
	}
	ring := ownGroup(ringOf(2, byNumber)...)
	comes(t, "a ring that leads to a ring", append(ownGroup(holds(la, part(lb)+part(ring[0].Label), lb, ring[0].Label), holds(lb, part(la)+part(lb), la, lb, ring[1].Label)), ring...)...)
	// Two rings with one archive each, and one name: two groups.
	comes(t, "two groups of one name", groupOfOne(holds(la, "x")), groupOfOne(holds(lb, "x")), called(groupOfOne(holds(la, "y")), groupOfOne(holds(la, "y")).Label))
	// What is there already is a part of no group.
	b := newBoth(t, ring...)
	more := groupOfOne(holds(la, part(ring[0].Label), ring[0].Label, ring[1].Label))
	b.pulls("a ring is there", depotOf(append(ring, more)...), []api.Label{more.Label, ring[0].Label}, []api.Label{more.Label})
	b.verifies("a ring is there")
}

func TestOwnMaker(t *testing.T) {
	ring := ownGroup(ringOf(3, byNumber)...)
	for _, o := range []api.Object{ownText("t", "x"), ownTree("d", dir()), ownFlat("f", "x"), groupOfOne(holds(la, "x"))} {
		comes(t, "no maker", o)
		wrong(t, "a maker", madeBy(o, lb))
	}
	for i, o := range ring {
		made := slices.Clone(ring)
		made[i] = madeBy(o, o.Label)
		newBoth(t).refusesPull("a member's maker", depotOf(made...), labelsIn(ring), api.ErrWrong, o.Label)
		finds(t, "a member's maker", depotOf(made...), api.ErrWrong, cardOf(o.Label))
	}
	comes(t, "a guest's maker", madeBy(holds(la, "x"), lb))
}

// P17.6, 4: a reference to a guest, in the depot and on the shelf.
func TestOwnGuests(t *testing.T) {
	g := holds(la, "guest")
	h := holds(named(255, "last"), "guest")
	one := ownText("one", "1")
	for _, guest := range []api.Object{g, h, madeBy(g, lb)} {
		for what, o := range map[string]api.Object{
			"a text": ownText("t", part(guest.Label), guest.Label), "a text among others": ownText("t", "x", one.Label, guest.Label), "a group of one": groupOfOne(holds(lc, part(guest.Label), guest.Label)), "one that mentions itself": groupOfOne(holds(lc, part(lc), lc, one.Label, guest.Label)),
		} {
			wrong(t, what+" refers to a guest in the depot", o, guest, one)
			files := depotOf(o, one)
			newBoth(t, guest).refusesPull(what+" refers to a guest on the shelf", files, []api.Label{o.Label}, api.ErrWrong, o.Label)
			newBoth(t, guest, one).refusesPull(what+" refers to a guest on the shelf", depotOf(o, guest, one), []api.Label{guest.Label, o.Label}, api.ErrWrong, o.Label)
			// A guest in the depot that is an own one on the shelf, and the other way round.
			newBoth(t, as(guest, api.ByFlat)).pulls("an own one on the shelf", depotOf(o, guest, one), []api.Label{o.Label}, label.Sort([]api.Label{o.Label, one.Label}[:1+boolOf(slices.Contains(o.Refs, one.Label))]))
			newBoth(t, guest).refusesPull("a guest on the shelf", depotOf(o, as(guest, api.ByFlat), one), []api.Label{o.Label}, api.ErrWrong, o.Label)
			// A guest may refer to anything.
			newBoth(t).pulls("a guest refers to a guest", depotOf(referring(as(o, api.Guest), guest.Label), guest), []api.Label{o.Label}, label.Sort([]api.Label{o.Label, guest.Label}))
			finds(t, what+" refers to what is not there", files, api.ErrNone, cardOf(o.Label))
		}
	}
	// A member of a ring that refers to a guest: it alone is wrong; the ring's other member is what its label says.
	ring := ownGroup(holds(lb, part(lc), lc, la), holds(lc, part(lb), lb))
	newBoth(t).refusesPull("a member refers to a guest", depotOf(append(ring, g)...), []api.Label{ring[1].Label}, api.ErrWrong, ring[0].Label)
	finds(t, "a member refers to a guest", depotOf(append(ring, g)...), api.ErrWrong, cardOf(ring[0].Label))
}

func boolOf(b bool) int {
	if b {
		return 1
	}
	return 0
}

func TestOwnText(t *testing.T) {
	one, two := ownText("one", "1"), ownTree("two", dir())
	for what, o := range map[string]api.Object{
		"other bytes":      {Label: ownText("o", "x").Label, Ark: file("y")},
		"executable":       {Label: ownText("e", "x").Label, Ark: arkOf(program("x"))},
		"a link":           {Label: ownText("l", "").Label, Ark: arkOf(link("x"))},
		"a directory":      {Label: ownText("d", "").Label, Ark: arkOf(dir())},
		"in a directory":   {Label: ownText("i", "x").Label, Ark: arkOf(dir(entry("f", fileNode("x"))))},
		"fewer references": {Label: ownText("f", "x", one.Label, two.Label).Label, Ark: file("x"), Refs: []api.Label{one.Label}},
		"more references":  {Label: ownText("m", "x", one.Label).Label, Ark: file("x"), Refs: label.Sort([]api.Label{one.Label, two.Label})},
		"itself too":       {Label: ownText("s", "x").Label, Ark: file("x"), Refs: []api.Label{ownText("s", "x").Label}},
		"another name":     {Label: api.Label{Hash: ownText("n", "x").Label.Hash, Name: "m"}, Ark: file("x")},
		"a tree's label":   {Label: ownTree("k", fileNode("x")).Label, Ark: file("x")},
		"a flat one's":     {Label: ownFlat("k", "x").Label, Ark: file("x")},
		"a group's":        {Label: groupOfOne(holds(api.Label{Name: "k"}, "x")).Label, Ark: file("x")},
		"the archive's":    {Label: label1(label.Text("a", file("x"), nil)), Ark: file("x")},
		"a hash of none":   {Label: named(77, "h"), Ark: file("x")},
	} {
		wrong(t, "a text: "+what, as(o, api.ByText), one, two)
	}
}

func TestOwnSource(t *testing.T) {
	one := ownText("one", "1")
	for what, o := range map[string]api.Object{
		"references":      referring(ownTree("r", fileNode("x")), one.Label),
		"itself":          referring(ownTree("s", fileNode("x")), ownTree("s", fileNode("x")).Label),
		"another tree":    {Label: ownTree("o", fileNode("x")).Label, Ark: file("y")},
		"its bytes' sum":  {Label: label1(label.Source("b", digest.Of([]byte("x")), nil, false)), Ark: file("x")},
		"with self":       {Label: label1(label.Source("w", digest.Of(file("x")), nil, true)), Ark: file("x")},
		"with references": {Label: label1(label.Source("wr", digest.Of(file("x")), []api.Label{one.Label}, false)), Ark: file("x"), Refs: []api.Label{one.Label}},
		"called so":       {Label: label1(label.Source("cr", digest.Of(file("x")), []api.Label{one.Label}, false)), Ark: file("x")},
		"another name":    {Label: api.Label{Hash: ownTree("n", fileNode("x")).Label.Hash, Name: "m"}, Ark: file("x")},
		"a text's label":  {Label: ownText("k", "x").Label, Ark: file("x")},
		"a group's":       {Label: groupOfOne(holds(api.Label{Name: "k"}, "x")).Label, Ark: file("x")},
	} {
		wrong(t, "a tree: "+what, as(o, api.BySource), one)
	}
}

func TestOwnFlat(t *testing.T) {
	one := ownText("one", "1")
	for what, o := range map[string]api.Object{
		"references":     referring(ownFlat("r", part(one.Label)), one.Label),
		"itself":         referring(ownFlat("s", "x"), ownFlat("s", "x").Label),
		"executable":     {Label: ownFlat("e", "x").Label, Ark: arkOf(program("x"))},
		"a link":         {Label: ownFlat("l", "").Label, Ark: arkOf(link("x"))},
		"a directory":    {Label: ownFlat("d", "").Label, Ark: arkOf(dir())},
		"in a directory": {Label: ownFlat("i", "x").Label, Ark: arkOf(dir(entry("f", fileNode("x"))))},
		"other bytes":    {Label: ownFlat("o", "x").Label, Ark: file("y")},
		"not flat":       {Label: label1(label.Fixed("n", digest.Of(file("x")), false)), Ark: file("x")},
		"its bytes, not": {Label: label1(label.Fixed("b", digest.Of([]byte("x")), false)), Ark: file("x")},
		"of the archive": {Label: label1(label.Fixed("a", digest.Of(file("x")), true)), Ark: file("x")},
		"another name":   {Label: api.Label{Hash: ownFlat("n", "x").Label.Hash, Name: "m"}, Ark: file("x")},
		"a text's label": {Label: ownText("k", "x").Label, Ark: file("x")},
	} {
		wrong(t, "a flat one: "+what, as(o, api.ByFlat), one)
	}
}

// wrongMembers holds which objects of a depot are wrong: Pull of each that is not names it, or a lesser one that it leads to.
func wrongMembers(t *testing.T, what string, objects []api.Object, wrong ...api.Label) {
	t.Helper()
	files := depotOf(objects...)
	all := labelsIn(objects)
	if len(wrong) == 0 {
		newBoth(t).pulls(what, files, all, label.Sort(all))
		finds(t, what, files, api.OK, "")
		return
	}
	first := label.Sort(wrong)[0]
	newBoth(t).refusesPull(what, files, all, api.ErrWrong, first)
	finds(t, what, files, api.ErrWrong, cardOf(first))
	n := newNames(objects, nil)
	for _, o := range objects {
		if n.isWrong(o) != slices.Contains(wrong, o.Label) {
			t.Errorf("P17.6, 5: %s: %s", what, showLabel(o.Label))
		}
	}
}

func TestOwnGroup(t *testing.T) {
	own := ownText("own", "own")
	for _, size := range []int{1, 2, 3, 5} {
		drafts := ringOf(size, byNumber)
		drafts[0].Refs = label.Sort(append(drafts[0].Refs, own.Label))
		ring := append(ownGroup(drafts...), own)
		all := labelsIn(ring[:size])
		wrongMembers(t, "a ring", ring)
		for i := range size {
			for what, change := range map[string]func(o *api.Object){
				"another text":     func(o *api.Object) { o.Ark = file("changed ", strings.Join(partsOf(o.Refs), "")) },
				"executable":       func(o *api.Object) { o.Ark = arkOf(program(textIn(*o))) },
				"one more mention": func(o *api.Object) { o.Ark = file(textIn(*o), " ", part(all[0])) },
			} {
				changed := slices.Clone(ring)
				change(&changed[i])
				wrongMembers(t, what, changed, all...)
			}
			// Another reference out of the group.
			changed := append(slices.Clone(ring), ownText("more", "more"))
			changed[i] = referring(changed[i], append(slices.Clone(changed[i].Refs), changed[size+1].Label)...)
			wrongMembers(t, "one more reference", changed, all...)
			// A member that says another word is wrong itself, and so are all others, but a guest is no own object.
			for _, ca := range []api.Ca{api.Guest, api.ByText, api.BySource, api.ByFlat} {
				changed := slices.Clone(ring)
				changed[i].Ca = ca
				want := slices.Clone(all)
				if ca == api.Guest {
					want = slices.Delete(want, i, i+1)
				}
				wrongMembers(t, fmt.Sprint("a member by ", ca), changed, want...)
			}
		}
	}
	// One that others would make a member is none: they only refer to it.
	ring := ownGroup(ringOf(2, byNumber)...)
	wrongMembers(t, "others refer to it", append(ring, own, ownText("r", part(ring[0].Label), ring[0].Label), groupOfOne(holds(la, part(ring[1].Label), ring[1].Label))))
	// Labels of another place, of another name, of another group.
	data := file("hi")
	text, _ := plainGroupText([]api.Object{holds(api.Label{Name: "x"}, "hi")}, nil)
	sum := digest.Of(text)
	for what, l := range map[string]api.Label{
		"another place": label1(label.Member(sum, 1, "x")), "another name": label1(label.Member(sum, 0, "y")), "another name behind": {Hash: label1(label.Member(sum, 0, "x")).Hash, Name: "y"}, "another sum": label1(label.Member(digest.Of(data), 0, "x")),
		"a text": ownText("x", "hi").Label, "a source": ownTree("x", fileNode("hi")).Label, "by hand": named(66, "x"),
	} {
		wrong(t, "a group: "+what, api.Object{Label: l, Ark: data, Ca: api.ByGroup})
	}
	comes(t, "it", api.Object{Label: label1(label.Member(sum, 0, "x")), Ark: data, Ca: api.ByGroup})
	// A ring whose members have exchanged their labels.
	one, two := ring[0], ring[1]
	one.Label, two.Label = two.Label, one.Label
	wrongMembers(t, "exchanged", []api.Object{one, two}, one.Label, two.Label)
}

func textIn(o api.Object) string {
	data, _ := fileOf(o.Ark)
	if !strings.Contains(string(o.Ark), string(data)) {
		panic("no file")
	}
	return string(data)
}

func partsOf(labels []api.Label) []string {
	var out []string
	for _, l := range labels {
		out = append(out, part(l))
	}
	return out
}

// P17.6, 5: more than MaxGroup members, two of one name, mentions that overlap.
func TestOwnGroupShapes(t *testing.T) {
	great := ownGroup(ringOf(api.MaxGroup+1, byNumber)...)
	wrongMembers(t, "65 members", great, labelsIn(great)...)
	greater := ringOf(1000, byNumber)
	for i := range greater {
		greater[i].Ca = api.ByGroup
	}
	wrongMembers(t, "1000 members", greater, labelsIn(greater)...)
	twins := ownGroup(ringOf(3, func(i int) string { return []string{"a", "b", "a"}[i] })...)
	for i := range twins {
		twins[i].Label.Hash[0] ^= byte(i) // two of them have one label by now
	}
	twins[0].Refs, twins[1].Refs, twins[2].Refs = []api.Label{twins[1].Label}, []api.Label{twins[2].Label}, []api.Label{twins[0].Label}
	wrongMembers(t, "twins", twins, labelsIn(twins)...)
	zero := named(0, "zero")
	for _, n := range []int{33, 1000} {
		wrong(t, "mentions that overlap", as(holds(zero, strings.Repeat("0", n), zero), api.ByGroup))
	}
	// Twins that are in no one group.
	comes(t, "twins apart", groupOfOne(holds(la, "x")), called(groupOfOne(holds(lb, "y")), groupOfOne(holds(api.Label{Hash: lb.Hash, Name: "a"}, "y")).Label))
}

// P17.6: a depot may have more labels than a graph has nodes, and more references than it has edges: they are told apart all the same.
func TestOwnManyGroups(t *testing.T) {
	data := file("x")
	files := []api.DepotFile{ownCard, {Name: "x", Data: data}}
	var objects []api.Object
	for i := range (api.MaxFiles - 2) / 2 {
		a, b := numbered(2*i, fmt.Sprint("a", i)), numbered(2*i+1, fmt.Sprint("b", i))
		objects = append(objects, ownGroup(api.Object{Label: a, Ark: data, Refs: []api.Label{b}}, api.Object{Label: b, Ark: data, Refs: []api.Label{a}})...)
	}
	for _, o := range objects {
		c, e := card.Tells(o, "x", "none", data)
		if e != api.OK {
			t.Fatal("no card")
		}
		files = append(files, api.DepotFile{Name: cardOf(o.Label), Data: cardText(c)})
	}
	labels := label.Sort(labelsIn(objects))
	if _, e, l := Pull(newWorld(t).s, files, labels, nil); e != api.ErrLong || l != labels[0] {
		t.Errorf("P17.6: %d pairs: %d, %s", len(objects)/2, e, showLabel(l))
	}
	if e, name := Check(files, nil); e != api.OK || name != "" {
		t.Errorf("P17.7: %d pairs: %d, %s", len(objects)/2, e, name)
	}
	// One that refers to itself too is the same; one that refers to no other is in no group with it, and both are wrong.
	last := labels[len(labels)-1]
	pair := cardIn(files, last).Refs[0]
	alone := turned(files, last, func(c *api.Card) { c.Refs = nil })
	other, _, _ := label.ParseBase(pair)
	first := label.Sort([]api.Label{last, other})[0]
	if _, e, l := Pull(newWorld(t).s, alone, labels, nil); e != api.ErrWrong || l != first {
		t.Errorf("P17.6: %d, %s, want %s", e, showLabel(l), showLabel(first))
	}
	if e, name := Check(alone, nil); e != api.ErrWrong || name != cardOf(first) {
		t.Errorf("P17.7: %d, %s", e, name)
	}
}

// groupsOf is the greatest parts in which each leads to every other.
func TestGroupsOf(t *testing.T) {
	source := sourceOf(3)
	for range 3000 {
		n := 1 + source.IntN(12)
		objects := make([]api.Object, n)
		all := map[api.Label]api.Object{}
		for i := range objects {
			objects[i].Label = numbered(i, "n")
			for range source.IntN(4) {
				objects[i].Refs = append(objects[i].Refs, numbered(source.IntN(n+1), "n"))
			}
			all[objects[i].Label] = objects[i]
		}
		seen := map[api.Label]int{}
		for _, group := range groupsOf(objects) {
			for _, o := range group {
				seen[o.Label]++
				for _, x := range objects {
					together := plainReach(o.Label, all)[x.Label] && plainReach(x.Label, all)[o.Label]
					if together != slices.ContainsFunc(group, func(y api.Object) bool { return y.Label == x.Label }) {
						t.Fatalf("%s and %s: %v", showLabel(o.Label), showLabel(x.Label), together)
					}
				}
			}
		}
		for _, o := range objects {
			if seen[o.Label] != 1 {
				t.Fatalf("%s is in %d groups", showLabel(o.Label), seen[o.Label])
			}
		}
	}
	// One long path, and one long ring.
	for _, ring := range []int{0, 1} {
		objects := make([]api.Object, api.MaxFiles)
		for i := range objects {
			objects[i].Label = numbered(i, "n")
			if i > 0 {
				objects[i].Refs = []api.Label{objects[i-1].Label}
			}
		}
		want := api.MaxFiles
		if ring == 1 {
			objects[0].Refs, want = []api.Label{objects[api.MaxFiles-1].Label}, 1
		}
		if got := len(groupsOf(objects)); got != want {
			t.Errorf("%d groups, want %d", got, want)
		}
	}
}

// P17.6, 5: an object that is called after its content may have more references than its group has names.
func TestOwnRefs(t *testing.T) {
	var refs []api.Label
	var objects []api.Object
	for i := range api.MaxRefs {
		o := ownText("r", fmt.Sprint(i))
		objects, refs = append(objects, o), append(refs, o.Label)
	}
	for _, o := range []api.Object{ownText("t", "all", refs...), groupOfOne(holds(la, strings.Join(partsOf(refs), " "), refs...))} {
		comes(t, "256 references", append(slices.Clone(objects), o)...)
	}
	self := groupOfOne(holds(la, part(la), append(slices.Clone(refs[1:]), la)...))
	comes(t, "255 references and itself", append(slices.Clone(objects), self)...)
}
