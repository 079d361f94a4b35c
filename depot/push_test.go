package depot

import (
	"bytes"
	"fmt"
	"slices"
	"strings"
	"testing"

	"graft/api"
	"graft/card"
	"graft/press"
)

// P17.5, 1: presses and keys that may not be.
func TestPushAsked(t *testing.T) {
	b := newBoth(t, two()...)
	right := depotOf(two()...)
	for _, how := range []string{"", "None", "none ", "gz", "gzip\x00", "xz", "nonegzip"} {
		b.refusesPush("the press "+how, right, []api.Label{la}, nil, how, api.ErrArg, api.Label{})
	}
	for _, name := range []string{"", ".k", "a b", "k:", "k/", "k\n", strings.Repeat("k", 212)} {
		b.refusesPush("the key "+name, right, []api.Label{la}, []api.Key{keyOf(name, "s")}, "none", api.ErrMark, api.Label{})
		b.refusesPush("the key "+name, right, []api.Label{la}, []api.Key{home, keyOf(name, "s"), away}, "none", api.ErrMark, api.Label{})
	}
	for _, n := range []int{0, 256, 1000} {
		b.refusesPush("a secret", right, []api.Label{la}, []api.Key{home, {Name: "k", Secret: make([]byte, n)}}, "none", api.ErrArg, api.Label{})
	}
	b.refusesPush("no secret", right, nil, []api.Key{{Name: "k"}}, "none", api.ErrArg, api.Label{})
	for _, n := range []int{1, 64, 65, 255} {
		k := api.Key{Name: strings.Repeat("k", 211), Secret: make([]byte, n)}
		if got := b.pushes(right, []api.Label{la}, "none", k); !card.Proves(cardIn(got, la), []api.Key{k}) || !card.Proves(cardIn(got, lb), []api.Key{k}) {
			t.Errorf("P17.5: a secret of %d bytes", n)
		}
	}
}

// P17.5, 3: roots that are not on the shelf.
func TestPushRoots(t *testing.T) {
	b := newBoth(t, two()...)
	for _, l := range []api.Label{lc, {}, {Hash: la.Hash, Name: "b"}, {Hash: la.Hash, Name: ".a"}, {Name: "a"}} {
		b.refusesPush("a root", nil, []api.Label{la, l, ld}, nil, "none", api.ErrNone, l)
		b.refusesPush("a root first", nil, []api.Label{l}, nil, "none", api.ErrNone, l)
		b.refusesPush("an object that differs, and a root", depotOf(holds(la, "x"), holds(lb, "y")), []api.Label{la, l}, nil, "none", api.ErrNone, l)
	}
	for _, roots := range [][]api.Label{{la}, {la, la}, {lb, la}, {la, lb, la}} {
		if got := b.pushes(nil, roots, "none"); showFiles(got) != showFiles(depotOf(two()...)) {
			t.Errorf("P17.5: %s: %s", showLabels(roots), namesOf(got))
		}
	}
	if got := b.pushes(nil, []api.Label{lb}, "none"); showFiles(got) != showFiles(depotOf(two()[1])) {
		t.Errorf("P17.5: b alone: %s", namesOf(got))
	}
}

// P17.5, 4: files and cards are laid as 17.1 says, by both presses.
func TestPushLaid(t *testing.T) {
	objects := []api.Object{holds(la, "to "+part(lb), lb), madeBy(holds(lb, "hi", lb), lc), ownFlat("f", "flat"), ownTree("d", dir()), ownText("t", "text")}
	ring := ownGroup(ringOf(3, byNumber)...)
	objects = append(objects, ring...)
	b := newBoth(t, objects...)
	for _, how := range []string{"none", "gzip"} {
		got := b.pushes(nil, labelsIn(objects), how)
		if len(got) != 1+2*len(objects) {
			t.Errorf("P17.5: %s: %d files", how, len(got))
		}
		for _, o := range objects {
			c := cardIn(got, o.Label)
			data, tail := o.Ark, ".ark"
			if how == "gzip" {
				data, tail = press.Gzip(o.Ark), ".ark.gz"
			}
			if c.Url != arkName(data, tail) || len(c.Url) != len("ark/")+52+len(tail) || !bytes.Equal(dataOf(got, c.Url), data) || c.Press != how || len(c.Marks) != 0 {
				t.Errorf("P17.5: %s: %+v", how, c)
			}
			if c.Label != textOf(o.Label) || c.ArkSum != sumOf(o.Ark) || c.ArkSize != len(o.Ark) || c.FileSum != sumOf(data) || c.FileSize != len(data) {
				t.Errorf("P17.5: %s: %+v", how, c)
			}
		}
		if showFiles(got) != showFiles(packedBy(how, objects...)) {
			t.Errorf("P17.5: %s: %s", how, namesOf(got))
		}
	}
}

// P17.5, 4: a card that is there stays with its file, by whatever press, with whatever marks.
func TestPushThere(t *testing.T) {
	objects := append(two(), ownText("t", "text"), madeBy(holds(lc, "c", la, lc), ld))
	b := newBoth(t, objects...)
	roots := labelsIn(objects)
	for _, how := range []string{"none", "gzip"} {
		for _, keys := range [][]api.Key{nil, {home}, {away, home}} {
			files := b.pushes(nil, roots, how, keys...)
			for _, other := range []string{"none", "gzip"} {
				for _, some := range [][]api.Label{nil, roots, roots[:1], roots[2:]} {
					if got := b.pushes(files, some, other); showFiles(got) != showFiles(files) {
						t.Errorf("P17.5: %s, then %s: %s", how, other, namesOf(got))
					}
				}
			}
		}
	}
	// What is new comes by the other press, and what was there stays.
	files := b.pushes(nil, []api.Label{lb}, "gzip", home)
	got := b.pushes(files, roots, "none")
	if cardIn(got, lb).Press != "gzip" || len(cardIn(got, lb).Marks) != 1 || cardIn(got, la).Press != "none" || len(cardIn(got, la).Marks) != 0 || len(got) != 1+2*len(objects) {
		t.Errorf("P17.5: %s", namesOf(got))
	}
}

// P17.5, 4: a card that is there and differs, in each of its fields.
func TestPushDiffers(t *testing.T) {
	for _, how := range []string{"none", "gzip"} {
		there := madeBy(holds(lb, "hi", lb, lc), lc)
		objects := []api.Object{holds(la, part(lb), lb), there, holds(lc, "c")}
		b := newBoth(t, objects...)
		for what, o := range map[string]api.Object{
			"another name":       called(there, api.Label{Hash: lb.Hash, Name: "x"}),
			"another hash part":  called(there, ld),
			"another archive":    {Label: lb, Ark: file("ho"), Refs: there.Refs, Maker: there.Maker},
			"a longer archive":   {Label: lb, Ark: file("hi, hi, hi"), Refs: there.Refs, Maker: there.Maker},
			"an executable":      {Label: lb, Ark: arkOf(program("hi")), Refs: there.Refs, Maker: there.Maker},
			"a reference fewer":  referring(there, lb),
			"a reference more":   referring(there, la, lb, lc),
			"another reference":  referring(there, lb, api.Label{Hash: lc.Hash, Name: "x"}),
			"no reference":       referring(there),
			"another maker":      madeBy(there, ld),
			"another maker's":    madeBy(there, api.Label{Hash: lc.Hash, Name: "x"}),
			"no maker":           {Label: lb, Ark: there.Ark, Refs: there.Refs},
			"another word: text": as(there, api.ByText), "another word: source": as(there, api.BySource), "another word: group": as(there, api.ByGroup), "another word: flat": as(there, api.ByFlat),
		} {
			files := packedBy(how, objects[0], o, objects[2])
			files = with(files, cardOf(lb), dataOf(files, cardOf(o.Label)))
			for _, press := range []string{"none", "gzip"} {
				b.refusesPush(what, files, []api.Label{la}, nil, press, api.ErrDiffer, lb)
				b.refusesPush(what, signed(files, home), []api.Label{lb}, []api.Key{home}, press, api.ErrDiffer, lb)
			}
			// Nothing but the closure is looked at.
			b.pushes(files, []api.Label{lc}, how)
			// The first in order is told, of two that differ.
			if o.Label == lb {
				b.refusesPush(what, with(files, cardOf(lc), nil), []api.Label{la}, nil, how, api.ErrDiffer, lb)
				b.refusesPush(what, with(files, cardOf(la), nil), []api.Label{la}, nil, how, api.ErrDiffer, la)
			}
		}
		if got := b.pushes(packedBy(how, objects...), []api.Label{la}, "none"); showFiles(got) != showFiles(packedBy(how, objects...)) {
			t.Errorf("P17.5: the same: %s", namesOf(got))
		}
	}
	// Own objects whose card says no word, or another one.
	own := ownText("t", "hi")
	b := newBoth(t, own)
	for _, ca := range []api.Ca{api.Guest, api.BySource, api.ByGroup, api.ByFlat} {
		b.refusesPush("another word", depotOf(as(own, ca)), []api.Label{own.Label}, nil, "none", api.ErrDiffer, own.Label)
	}
	b.pushes(depotOf(own), []api.Label{own.Label}, "none")
}

// P17.5, 4: an archive's name with other data.
func TestPushOtherData(t *testing.T) {
	b := newBoth(t, two()...)
	data := file("hi")
	for how, name := range map[string]string{"none": arkName(data, ".ark"), "gzip": arkName(press.Gzip(data), ".ark.gz")} {
		for _, other := range [][]byte{nil, []byte("x"), file("ho"), data[:119], append(bytes.Clone(data), 0)} {
			files := []api.DepotFile{ownCard, {Name: name, Data: other}}
			b.refusesPush("other data", files, []api.Label{la}, nil, how, api.ErrDiffer, lb)
			b.refusesPush("other data, and marks", files, []api.Label{lb}, []api.Key{home}, how, api.ErrDiffer, lb)
			not := map[string]string{"none": "gzip", "gzip": "none"}[how]
			if got := b.pushes(files, []api.Label{la}, not); !bytes.Equal(dataOf(got, name), other) {
				t.Errorf("P17.5: a file that nobody tells of has changed")
			}
		}
		packed, _ := packed(data, how)
		files := []api.DepotFile{{Name: name, Data: packed}, ownCard}
		if got := b.pushes(files, []api.Label{la}, how); showFiles(got) != showFiles(packedBy(how, two()...)) {
			t.Errorf("P17.5: the archive without its card: %s", namesOf(got))
		}
	}
}

// P17.5, 4: Tells' error. (What is on a shelf has none.)
func TestPushTells(t *testing.T) {
	d, _, _ := open([]api.DepotFile{ownCard})
	for what, x := range map[string]struct {
		o api.Object
		e api.Errno
	}{
		"no such word": {as(holds(la, "a"), 5), api.ErrArg}, "no maker": {api.Object{Label: la, Ark: file("a"), Maker: "x"}, api.ErrArg}, "no label": {holds(api.Label{}, "a"), api.ErrField},
		"references out of order": {api.Object{Label: la, Ark: file("a"), Refs: []api.Label{lb, la}}, api.ErrField}, "a great archive": {api.Object{Label: la, Ark: make([]byte, api.MaxArk+1)}, api.ErrField},
	} {
		for _, how := range []string{"none", "gzip"} {
			p := pushing{depot: d, keys: []api.Key{home}, press: how, fresh: map[string][]byte{}}
			if e := p.push(x.o); e != x.e || len(p.fresh) != 0 {
				t.Errorf("P17.5: %s: %d, want %d", what, e, x.e)
			}
		}
	}
}

// keysBy is so many keys.
func keysBy(n int) []api.Key {
	var out []api.Key
	for i := range n {
		out = append(out, keyOf(fmt.Sprint("k", i), "s"))
	}
	return out
}

// P17.5, 4: marks, by each key in turn, up to MaxMarks of them.
func TestPushMarks(t *testing.T) {
	b := newBoth(t, two()...)
	roots := []api.Label{la}
	sixteen := keysBy(api.MaxMarks)
	for _, files := range [][]api.DepotFile{nil, depotOf(two()...), packedBy("gzip", two()...)} {
		full := b.pushes(files, roots, "none", sixteen...)
		if n := len(cardIn(full, la).Marks) + len(cardIn(full, lb).Marks); n != 2*api.MaxMarks {
			t.Errorf("P17.5: %d marks", n)
		}
		b.refusesPush("17 keys", files, roots, keysBy(17), "none", api.ErrFull, la)
		b.refusesPush("a full card", full, roots, []api.Key{home}, "none", api.ErrFull, la)
		b.refusesPush("a full card of b", full, []api.Label{lb}, []api.Key{sixteen[3], home}, "none", api.ErrFull, lb)
		if got := b.pushes(full, roots, "none", sixteen...); showFiles(got) != showFiles(full) {
			t.Error("P17.5: the same marks once more")
		}
		// A key of a name that is there takes the old one's place.
		other := keyOf("k5", "another")
		got := b.pushes(full, roots, "none", other)
		for _, l := range []api.Label{la, lb} {
			c := cardIn(got, l)
			if len(c.Marks) != api.MaxMarks || card.Proves(c, sixteen[5:6]) || !card.Proves(c, []api.Key{other}) || !card.Proves(c, sixteen[6:7]) {
				t.Errorf("P17.5: another key of one name: %v", c.Marks)
			}
		}
		// Sixteen keys and one of them again: the last of a name counts.
		got = b.pushes(files, roots, "gzip", append(slices.Clone(sixteen), other)...)
		if c := cardIn(got, lb); card.Proves(c, sixteen[5:6]) || !card.Proves(c, []api.Key{other}) || len(c.Marks) != 16 {
			t.Errorf("P17.5: two keys of one name: %v", c.Marks)
		}
	}
	// Only b's card is full: a's comes first, and is fine.
	full := b.pushes(nil, []api.Label{lb}, "none", sixteen...)
	b.refusesPush("b's card is full", full, roots, []api.Key{home}, "none", api.ErrFull, lb)
	// A full card that differs.
	b.refusesPush("full, and its file is gone", without(full, cardIn(full, lb).Url), roots, []api.Key{home}, "none", api.ErrDiffer, lb)
	// Keys one behind the other, in either order, are keys at once.
	one := b.pushes(b.pushes(nil, roots, "none", home), roots, "none", away)
	for _, got := range [][]api.DepotFile{b.pushes(nil, roots, "none", home, away), b.pushes(nil, roots, "none", away, home), b.pushes(one, roots, "none", home)} {
		if showFiles(got) != showFiles(one) {
			t.Error("P17.5: keys in turn")
		}
	}
	if showFiles(one) != showFiles(signed(depotOf(two()...), home, away)) {
		t.Errorf("P17.5: %s", showFiles(one))
	}
}

// P17.5, 5: MaxFiles files and one more.
func TestPushFull(t *testing.T) {
	alone := holds(lb, "hi")
	b := newBoth(t, alone, holds(la, "a", lb))
	room := func(n int) []api.DepotFile { return append(others(api.MaxFiles-1-n), ownCard) } // so many files fit
	if got := b.pushes(room(2), []api.Label{lb}, "none"); len(got) != api.MaxFiles {
		t.Errorf("P17.5: %d files", len(got))
	}
	b.refusesPush("one more", room(1), []api.Label{lb}, nil, "none", api.ErrFull, api.Label{})
	b.refusesPush("two more", room(0), []api.Label{lb}, nil, "gzip", api.ErrFull, api.Label{})
	b.refusesPush("two objects", room(3), []api.Label{la}, nil, "none", api.ErrFull, api.Label{})
	if got := b.pushes(room(4), []api.Label{la}, "none"); len(got) != api.MaxFiles {
		t.Errorf("P17.5: %d files", len(got))
	}
	// The archive is there already: its card alone comes.
	there := append(room(2), api.DepotFile{Name: arkName(alone.Ark, ".ark"), Data: alone.Ark})
	if got := b.pushes(there, []api.Label{lb}, "none"); len(got) != api.MaxFiles {
		t.Errorf("P17.5: %d files", len(got))
	}
	b.refusesPush("the archive is there", append(there, api.DepotFile{Name: "y"}), []api.Label{lb}, nil, "none", api.ErrFull, api.Label{})
	// All is there: nothing comes.
	full := b.pushes(room(2), []api.Label{lb}, "none")
	if got := b.pushes(full, []api.Label{lb}, "gzip", home); len(got) != api.MaxFiles {
		t.Errorf("P17.5: %d files", len(got))
	}
	// Two objects with one archive.
	b = newBoth(t, holds(la, "x", lb), holds(lb, "x"))
	if got := b.pushes(room(3), []api.Label{la}, "gzip"); len(got) != api.MaxFiles {
		t.Errorf("P17.5: %d files", len(got))
	}
	b.refusesPush("one archive", room(2), []api.Label{la}, nil, "gzip", api.ErrFull, api.Label{})
}

// P17.5: other files stay, whatever they are, and nothing else of the depot is looked at.
func TestPushOthers(t *testing.T) {
	b := newBoth(t, two()...)
	stay := []api.DepotFile{{Name: "", Data: []byte("no name")}, {Name: "note.txt", Data: []byte("x")}, {Name: "ark/"}, {Name: "ark/x.ark", Data: file("x")}, {Name: cardOf(lc), Data: []byte("no card")}, {Name: cardOf(ld), Data: dataOf(depotOf(two()...), cardOf(la))}, {Name: "\xff\x00", Data: []byte{0}}, {Name: part(lc)}, {Name: strings.ToUpper(cardOf(ld))}, {Name: arkName(file("hi"), ".ark.gz"), Data: []byte("x")}}
	for _, files := range [][]api.DepotFile{depotOf(), depotOf(two()...), depotOf(two()[1])} {
		got := b.pushes(append(files, stay...), []api.Label{la}, "none")
		if showFiles(got) != showFiles(sortedFiles(append(depotOf(two()...), stay...))) {
			t.Errorf("P17.5: %s", namesOf(got))
		}
	}
}

// P17.5, P17.6: a nil shelf, whatever else is handed in.
func TestNilShelf(t *testing.T) {
	for _, files := range [][]api.DepotFile{nil, {{Name: "x"}}, {ownCard, ownCard}, depotOf(two()...), others(api.MaxFiles + 1)} {
		for _, roots := range [][]api.Label{nil, {la}, {{}}} {
			for _, keys := range [][]api.Key{nil, {home}, {{}}} {
				for _, how := range []string{"none", "gzip", "x"} {
					if got, e, l := Push(nil, files, roots, keys, how); len(got) != 0 || e != api.OK || l != (api.Label{}) {
						t.Errorf("P17.5: a nil shelf: %d files, %d, %s", len(got), e, showLabel(l))
					}
				}
				if got, e, l := Pull(nil, files, roots, keys); len(got) != 0 || e != api.OK || l != (api.Label{}) {
					t.Errorf("P17.6: a nil shelf: %s, %d, %s", showLabels(got), e, showLabel(l))
				}
			}
		}
	}
}

// P17.5: a card whose file is gone is not good, though an object with the same archive comes.
func TestPushSharedGone(t *testing.T) {
	b := newBoth(t, holds(la, "x"), holds(lb, "x"), holds(lc, "x"))
	files := depotOf(holds(lb, "x"))
	gone := without(files, cardIn(files, lb).Url)
	b.refusesPush("its file is gone", gone, []api.Label{la, lb, lc}, nil, "none", api.ErrDiffer, lb)
	b.refusesPush("its file is gone", gone, []api.Label{lb, lc}, nil, "none", api.ErrDiffer, lb)
	b.pushes(gone, []api.Label{la, lc}, "none")
}
