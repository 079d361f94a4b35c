package depot

import (
	"encoding/binary"
	"fmt"
	"hash/crc32"
	"slices"
	"strings"
	"testing"

	"graft/api"
	"graft/card"
	"graft/journal"
	"graft/label"
)

// P17.6: what goes well.
func TestPull(t *testing.T) {
	all := []api.Object{holds(la, part(lb), lb), holds(lb, part(lc)+part(lb), lb, lc), holds(lc, part(lb), lb), holds(ld, "alone")}
	for _, how := range []string{"none", "gzip"} {
		files := packedBy(how, all...)
		for _, x := range []struct {
			there string
			roots []api.Label
			comes []api.Label
		}{
			{"", nil, nil}, {"", []api.Label{la}, []api.Label{la, lb, lc}}, {"", []api.Label{lc}, []api.Label{lb, lc}}, {"", []api.Label{ld}, []api.Label{ld}}, {"", []api.Label{ld, la, ld, la, lc}, []api.Label{la, lb, lc, ld}},
			{"d", []api.Label{ld}, nil}, {"d", []api.Label{ld, la}, []api.Label{la, lb, lc}}, {"bc", []api.Label{la}, []api.Label{la}}, {"bc", []api.Label{la, lb, lc, ld}, []api.Label{la, ld}}, {"abcd", []api.Label{la, lb, ld, la}, nil},
		} {
			there := slices.DeleteFunc(slices.Clone(all), func(o api.Object) bool { return !strings.Contains(x.there, o.Label.Name) })
			b := newBoth(t, there...)
			b.pulls(fmt.Sprintf("%s, %q", how, x.there), files, x.roots, x.comes)
			for _, l := range x.comes {
				got, _ := b.s.Get(l)
				if i := slices.Index(labelsIn(all), l); showObject(got) != showObject(all[i]) {
					t.Errorf("P17.6: %s, want %s", showObject(got), showObject(all[i]))
				}
			}
			b.pulls("once more", files, x.roots, nil)
		}
	}
}

// P17.6: nothing to do is done by no transaction.
func TestPullNothing(t *testing.T) {
	files := depotOf(two()...)
	b := newBoth(t, two()...)
	last := b.s.Last()
	b.pulls("all there", files, []api.Label{la, lb}, nil)
	b.pulls("no roots", files, nil, nil)
	b.pulls("no keys that prove it", files, []api.Label{la}, nil, home)
	b.pulls("nothing in the depot", depotOf(), []api.Label{la, lb}, nil)
	if b.s.Last() != last {
		t.Errorf("P17.6: %d transactions", b.s.Last()-last)
	}
	b = newBoth(t)
	b.pulls("all of it", files, []api.Label{la}, []api.Label{la, lb})
	if b.s.Last() != 1 {
		t.Errorf("P17.6: %d transactions, want one", b.s.Last())
	}
}

// P17.6: what is on the shelf is left as it is, and its card is not looked at.
func TestPullThere(t *testing.T) {
	files := depotOf(two()...)
	for what, spoilt := range map[string][]api.DepotFile{
		"as it was": files, "another object": depotOf(two()[0], holds(lb, "other")), "no card": without(files, cardOf(lb)), "a card that is none": with(files, cardOf(lb), nil), "no file": without(files, cardIn(files, lb).Url),
		"more references": depotOf(two()[0], holds(lb, "hi", lc)),
	} {
		b := newBoth(t, holds(lb, "here", ld), holds(ld, "d"))
		before := showObject(firstOf(b.s.Get(lb)))
		b.pulls(what, spoilt, []api.Label{lb, la}, []api.Label{la})
		if showObject(firstOf(b.s.Get(lb))) != before {
			t.Errorf("P17.6: %s: what was on the shelf has changed", what)
		}
		b.pulls(what, spoilt, []api.Label{lb, la}, nil)
	}
	// a on the shelf: nothing that it leads to is looked at.
	b := newBoth(t, holds(la, "a"))
	b.pulls("a is there", without(files, cardOf(lb)), []api.Label{la}, nil)
}

func firstOf(o api.Object, _ api.Errno) api.Object { return o }

// P17.6: always the least label that is known is looked at next.
func TestPullOrder(t *testing.T) {
	// b refers to a and d, d to c.
	all := []api.Object{holds(la, "a"), holds(lb, "b", la, ld), holds(lc, "c"), holds(ld, "d", lc)}
	files := depotOf(all...)
	wrong := func(labels ...api.Label) []api.DepotFile {
		out := files
		for _, l := range labels {
			out = without(out, cardOf(l))
		}
		return out
	}
	for _, x := range []struct {
		files []api.DepotFile
		roots []api.Label
		first api.Label
	}{
		{wrong(lb, ld), []api.Label{ld, lb}, lb}, {wrong(la, lc), []api.Label{lb}, la}, {wrong(ld, lc), []api.Label{lb}, ld}, {wrong(lc, la), []api.Label{ld, la}, la}, {wrong(ld, lc), []api.Label{ld, lc}, lc},
		{wrong(la, lb, lc, ld), []api.Label{lb}, lb}, {wrong(la, lb, lc, ld), []api.Label{ld, lc, lb}, lb}, {wrong(lc), []api.Label{lb}, lc}, {wrong(lc, ld), []api.Label{lb, lc}, lc},
	} {
		newBoth(t).refusesPull(showLabels(x.roots), x.files, x.roots, api.ErrNone, x.first)
	}
	// The first that is looked at tells its defect, however slight, ahead of all others.
	spoilt := with(turned(files, la, func(c *api.Card) { c.Url = "no" }), cardOf(ld), nil)
	newBoth(t).refusesPull("a's file, d's card", spoilt, []api.Label{lb}, api.ErrNone, la)
	newBoth(t, holds(la, "a")).refusesPull("d's card", spoilt, []api.Label{lb}, api.ErrDepot, ld)
	// Labels of one hash part and two names: the lesser name first.
	x, y := api.Label{Hash: la.Hash, Name: "x"}, api.Label{Hash: la.Hash, Name: "y"}
	newBoth(t).refusesPull("two names", files, []api.Label{y, x}, api.ErrDepot, x)
	newBoth(t).refusesPull("a's name and another", files, []api.Label{x, la}, api.ErrDepot, x)
	newBoth(t).refusesPull("a label that is no label", files, []api.Label{{Hash: la.Hash, Name: ".a"}}, api.ErrDepot, api.Label{Hash: la.Hash, Name: ".a"})
	newBoth(t).refusesPull("a label that is no label", files, []api.Label{{}}, api.ErrNone, api.Label{})
	newBoth(t).refusesPull("a label that is no label, and a card that is none", with(files, cardOf(api.Label{}), nil), []api.Label{{}}, api.ErrDepot, api.Label{})
	newBoth(t).refusesPull("a label that is no label", files, []api.Label{la, {Hash: named(9, "").Hash}}, api.ErrNone, named(9, ""))
}

// P17.6, 2: keys.
func TestPullTrust(t *testing.T) {
	plainly := depotOf(two()...)
	files := signed(plainly, home, away)
	both := []api.Label{la, lb}
	again := keyOf("k", "t")
	for what, keys := range map[string][]api.Key{
		"no keys": nil, "one": {home}, "the other": {away}, "both": {home, away}, "the right one among others": {keyOf("x", "x"), again, home, {}}, "the right one behind others": {again, keyOf("other", "p"), away}, "a byte 0 more": {keyOf("k", "s\x00")},
	} {
		newBoth(t).pulls(what, files, []api.Label{la}, both, keys...)
		finds(t, what, files, api.OK, "", keys...)
	}
	for what, keys := range map[string][]api.Key{
		"another secret": {again}, "another name": {keyOf("l", "s")}, "the other's secret": {keyOf("other", "s")}, "no name": {{Secret: []byte("s")}}, "an empty key": {{}}, "several wrong ones": {again, keyOf("other", "p"), {}},
	} {
		newBoth(t).refusesPull(what, files, []api.Label{la}, api.ErrTrust, la, keys...)
		newBoth(t).refusesPull(what, files, []api.Label{lb, la}, api.ErrTrust, la, keys...)
		finds(t, what, files, api.ErrTrust, cardOf(la), keys...)
		newBoth(t, holds(lb, "b"), holds(la, "a")).pulls(what, files, []api.Label{la}, nil, keys...)
	}
	newBoth(t).refusesPull("no marks", plainly, []api.Label{la}, api.ErrTrust, la, home)
	// b alone is not signed, or by another key.
	half := with(files, cardOf(lb), dataOf(plainly, cardOf(lb)))
	newBoth(t).refusesPull("b is not signed", half, []api.Label{la}, api.ErrTrust, lb, home)
	newBoth(t).pulls("b is not signed, without keys", half, []api.Label{la}, both)
	finds(t, "b is not signed", half, api.ErrTrust, cardOf(lb), home)
	half = with(files, cardOf(lb), dataOf(signed(plainly, away), cardOf(lb)))
	newBoth(t).refusesPull("b is signed by the other", half, []api.Label{la}, api.ErrTrust, lb, home)
	newBoth(t).pulls("b is signed by the other", half, []api.Label{la}, both, home, away)
	// A mark is of what the card says of its object: with that changed it proves nothing, with another file it does.
	for what, change := range map[string]func(c *api.Card){
		"Refs": func(c *api.Card) { c.Refs = append(c.Refs, baseOf(lc)) }, "Maker": func(c *api.Card) { c.Maker = baseOf(lc) }, "Ca": func(c *api.Card) { c.Ca = "flat" },
	} {
		newBoth(t).refusesPull(what, turned(files, lb, change), []api.Label{la}, api.ErrTrust, lb, home)
	}
	o := holds(lb, "other")
	forged := depotOf(two()[0], o)
	forged = turned(signed(forged, home), lb, func(c *api.Card) { c.Marks = cardIn(files, lb).Marks })
	newBoth(t).refusesPull("another archive under b's marks", forged, []api.Label{la}, api.ErrTrust, lb, home)
	newBoth(t).pulls("another archive, without keys", forged, []api.Label{la}, both)
	gz := turned(packedBy("gzip", two()...), lb, func(c *api.Card) { c.Marks = cardIn(files, lb).Marks })
	newBoth(t).pulls("the same, packed", gz, []api.Label{lb}, []api.Label{lb}, home)
	if !card.Proves(cardIn(gz, lb), []api.Key{home}) {
		t.Error("P10.7")
	}
}

// P17.6: of the six grounds two at once: all labels are looked at ahead of what own objects hold, and that ahead of the transaction.
func TestPullTwoGrounds(t *testing.T) {
	text := ownText("t", "text")
	no := as(holds(la, "wrong"), api.ByText) // not what its label says
	top := holds(named(0, "top"), "top", la, text.Label)
	files := depotOf(top, no, text)
	newBoth(t).refusesPull("wrong", files, []api.Label{top.Label}, api.ErrWrong, la)
	newBoth(t).refusesPull("wrong, and no card of another", without(files, cardOf(text.Label)), []api.Label{top.Label}, api.ErrNone, text.Label)
	newBoth(t).refusesPull("wrong, and no file of another", without(files, cardIn(files, text.Label).Url), []api.Label{top.Label}, api.ErrNone, text.Label)
	newBoth(t).refusesPull("wrong, and not signed", files, []api.Label{top.Label}, api.ErrTrust, top.Label, home)
	newBoth(t, holds(api.Label{Hash: top.Label.Hash, Name: "x"}, "x")).refusesPull("wrong, and a clash", files, []api.Label{top.Label}, api.ErrWrong, la)
	newBoth(t, holds(api.Label{Hash: top.Label.Hash, Name: "x"}, "x")).refusesPull("a clash", depotOf(top, holds(la, "a"), text), []api.Label{top.Label}, api.ErrClash, top.Label)
	// Two that are wrong: the first in order.
	second := as(holds(lb, "wrong"), api.BySource)
	newBoth(t).refusesPull("two wrong ones", depotOf(holds(lc, "c", lb, la), no, second), []api.Label{lc}, api.ErrWrong, la)
	newBoth(t).refusesPull("two wrong ones", depotOf(holds(lc, "c", lb, la), no, second), []api.Label{lb, la}, api.ErrWrong, la)
	newBoth(t, holds(la, "here")).refusesPull("one of them is there", depotOf(holds(lc, "c", lb, la), no, second), []api.Label{lc}, api.ErrWrong, lb)
}

// record is one of a journal's, as chapter 11 lays it.
func record(kind byte, number uint64, body string) string {
	front := binary.LittleEndian.AppendUint64([]byte{0x9e, kind}, number)
	front = binary.LittleEndian.AppendUint32(front, uint32(len(body)))
	return summed(string(front)) + summed(body)
}

func summed(s string) string {
	return s + string(binary.LittleEndian.AppendUint32(nil, crc32.ChecksumIEEE([]byte(s))))
}

// lastDisk is a disk whose journal has no number left for another batch.
func lastDisk() api.Disk {
	data := record(1, 1, string(binary.LittleEndian.AppendUint64(nil, api.MaxNumber))) + record(3, 0, "") + record(5, api.MaxNumber, string(binary.LittleEndian.AppendUint32(nil, 0)))
	return api.Disk{Files: [2][]byte{[]byte(data)}}
}

// P17.6, 6: Apply's errors, and which label they name.
func TestPullApply(t *testing.T) {
	files := depotOf(two()...)
	roots := []api.Label{la}
	// One hash part for two names.
	newBoth(t, holds(api.Label{Hash: lb.Hash, Name: "x"}, "x")).refusesPull("b's hash part", files, roots, api.ErrClash, lb)
	newBoth(t, holds(api.Label{Hash: la.Hash, Name: "x"}, "x")).refusesPull("a's hash part", files, roots, api.ErrClash, la)
	newBoth(t, holds(api.Label{Hash: lb.Hash, Name: "x"}, "x"), holds(api.Label{Hash: la.Hash, Name: "x"}, "x")).refusesPull("both", files, roots, api.ErrClash, la)
	// No room in the journal: no step is named.
	wanted := newWorld(t)
	Pull(wanted.s, files, roots, nil)
	used := wanted.s.Stat().Journal
	full := bothOn(t, api.Disk{}, used-1)
	full.refusesPull("no room", files, roots, api.ErrFull, api.Label{})
	full.refusesPull("no room for b", depotOf(holds(lb, strings.Repeat("hi", 1000))), []api.Label{lb}, api.ErrFull, api.Label{})
	exact := bothOn(t, api.Disk{}, used)
	exact.pulls("just enough room", files, roots, []api.Label{la, lb})
	// No number.
	bothOn(t, lastDisk(), wide).refusesPull("no number", files, roots, api.ErrEnd, api.Label{})
	if _, e, _, _ := journal.Open(journal.NewDevice(lastDisk()), wide); e != api.OK {
		t.Fatalf("P11.5: %d", e)
	}
}

// guests is so many objects with one archive, and a depot of them.
func guests(n int, ca api.Ca) ([]api.Label, []api.DepotFile) {
	data := file("x")
	files := []api.DepotFile{ownCard, {Name: "x", Data: data}}
	var labels []api.Label
	for i := range n {
		o := api.Object{Label: numbered(i, "g"), Ark: data, Ca: ca}
		c, e := card.Tells(o, "x", "none", data)
		if e != api.OK {
			panic("no card")
		}
		labels, files = append(labels, o.Label), append(files, api.DepotFile{Name: cardOf(o.Label), Data: cardText(c)})
	}
	return label.Sort(labels), files
}

// P17.6, 6: MaxObjects objects and one more, MaxBatch steps and one more; and what is wrong is told ahead of these.
func TestPullMany(t *testing.T) {
	for _, x := range []struct {
		n, there int
		e        api.Errno
		at       int
	}{{api.MaxObjects, 0, api.OK, 0}, {api.MaxObjects + 1, 0, api.ErrFull, api.MaxObjects}, {api.MaxObjects, 1, api.ErrFull, api.MaxObjects - 1}, {api.MaxBatch, 0, api.ErrFull, api.MaxObjects}, {api.MaxBatch + 1, 0, api.ErrLong, 0}, {api.MaxFiles - 2, 0, api.ErrLong, 0}} {
		labels, files := guests(x.n, api.Guest)
		w := newWorld(t)
		for i := range x.there {
			w.lay(holds(numbered(-1-i, "t"), "t"))
		}
		before := w.state()
		got, e, l := Pull(w.s, files, labels, nil)
		switch {
		case x.e == api.OK && (e != api.OK || !slices.Equal(got, labels) || l != (api.Label{}) || len(w.s.List()) != x.n):
			t.Errorf("P17.6: %d objects: %d, %s", x.n, e, showLabel(l))
		case x.e != api.OK && (e != x.e || l != labels[x.at] || len(got) > 0 || w.state() != before):
			t.Errorf("P17.6: %d objects: %d, %s, want %d, %s", x.n, e, showLabel(l), x.e, showLabel(labels[x.at]))
		}
		if e, name := Check(files, nil); e != api.OK || name != "" {
			t.Errorf("P17.7: %d cards: %d, %s", x.n, e, name)
		}
		if lacks, e := Lacks(files, labels); e != api.OK || len(lacks) > 0 {
			t.Errorf("P17.8: %d cards: %d lacking, %d", x.n, len(lacks), e)
		}
		// The last one is an own one, and not what its label says.
		last := labels[x.n-1]
		wrong := turned(files, last, func(c *api.Card) { c.Ca = "text" })
		if got, e, l := Pull(newWorld(t).s, wrong, labels, nil); e != api.ErrWrong || l != last || len(got) > 0 {
			t.Errorf("P17.6: %d objects, one wrong: %d, %s", x.n, e, showLabel(l))
		}
		if e, name := Check(wrong, nil); e != api.ErrWrong || name != cardOf(last) {
			t.Errorf("P17.7: %d cards, one wrong: %d, %s", x.n, e, name)
		}
	}
}
