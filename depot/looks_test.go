package depot

import (
	"slices"
	"strings"
	"testing"

	"graft/api"
	"graft/label"
)

func basesOf(labels ...api.Label) []string {
	var out []string
	for _, l := range label.Sort(labels) {
		out = append(out, baseOf(l))
	}
	return out
}

// lacks holds what a Lacks answers.
func lacks(t *testing.T, what string, files []api.DepotFile, roots []api.Label, want ...api.Label) {
	t.Helper()
	if got, e := lacked(t, files, roots...); e != api.OK || !slices.Equal(got, basesOf(want...)) {
		t.Errorf("P17.8: %s: Lacks = %q, %d, want %q", what, got, e, basesOf(want...))
	}
}

// keeps holds which files a Prune answers: depot.card, and what the labels' cards are called and tell of.
func keeps(t *testing.T, what string, files []api.DepotFile, roots []api.Label, names ...string) {
	t.Helper()
	names = append(names, "depot.card")
	slices.Sort(names)
	got, e := pruned(t, files, roots...)
	if e != api.OK || namesOf(got) != strings.Join(names, " ") {
		t.Errorf("P17.9: %s: Prune = %q, %d, want %q", what, namesOf(got), e, names)
	}
	for _, f := range got {
		if string(f.Data) != string(dataOf(files, f.Name)) {
			t.Errorf("P17.9: %s: %s has changed", what, f.Name)
		}
	}
	if again, e := pruned(t, got, roots...); e != api.OK || showFiles(again) != showFiles(got) {
		t.Errorf("P17.9: %s: once more: %q", what, namesOf(again))
	}
}

// filesFor is the names of the cards of labels, and of their files.
func filesFor(files []api.DepotFile, labels ...api.Label) []string {
	var out []string
	for _, l := range labels {
		out = append(out, cardOf(l), cardIn(files, l).Url)
	}
	return out
}

// web is a that refers to b and c, b and c to each other, c to itself and to d; and e alone.
func web() []api.Object {
	return []api.Object{holds(la, "a", lb, lc), holds(lb, "b", lc), holds(lc, "c", lb, lc, ld), holds(ld, "d"), holds(named(5, "e"), "e")}
}

func TestLacks(t *testing.T) {
	files := depotOf(web()...)
	le := named(5, "e")
	for _, roots := range [][]api.Label{nil, {la}, {le}, {le, la, le}, {lb, lc, ld}} {
		lacks(t, "nothing", files, roots)
	}
	lacks(t, "other labels", files, []api.Label{named(9, "x"), named(8, "y"), named(9, "x"), la}, named(9, "x"), named(8, "y"))
	lacks(t, "a's hash part under another name", files, []api.Label{{Hash: la.Hash, Name: "x"}, la}, api.Label{Hash: la.Hash, Name: "x"})
	lacks(t, "two names of one hash part", files, []api.Label{{Hash: la.Hash, Name: "y"}, {Hash: la.Hash, Name: "x"}}, api.Label{Hash: la.Hash, Name: "x"}, api.Label{Hash: la.Hash, Name: "y"})
	lacks(t, "an empty depot", depotOf(), []api.Label{lb, la}, la, lb)
	for _, l := range []api.Label{la, lb, lc, ld, le} {
		for what, spoilt := range map[string][]api.DepotFile{"gone": without(files, cardOf(l)), "no card": with(files, cardOf(l), []byte("x")), "another's": with(files, cardOf(l), dataOf(depotOf(holds(named(7, "x"), "x")), cardOf(named(7, "x"))))} {
			lacks(t, what, spoilt, []api.Label{l}, l)
			lacks(t, what, spoilt, []api.Label{la, le}, l)
			lacks(t, what, spoilt, []api.Label{l, l, le}, l)
		}
		// A file that is gone, or differs, makes no card bad.
		lacks(t, "no file", without(files, cardIn(files, l).Url), []api.Label{la, le})
		lacks(t, "another file", with(files, cardIn(files, l).Url, nil), []api.Label{la, le})
	}
	// Beyond a card that is not good nothing is known.
	lacks(t, "b and d", without(without(files, cardOf(ld)), cardOf(lb)), []api.Label{la}, lb, ld)
	lacks(t, "c, and d that only c leads to", without(without(files, cardOf(ld)), cardOf(lc)), []api.Label{la}, lc)
	lacks(t, "own ones, whatever they hold", depotOf(as(holds(la, "a", lb), api.ByText)), []api.Label{la}, lb)
	// As many as there may be.
	var refs []api.Label
	for i := range api.MaxRefs {
		refs = append(refs, numbered(i, "r"))
	}
	lacks(t, "256 references", depotOf(holds(la, "a", refs...)), []api.Label{la}, refs...)
}

func TestPrune(t *testing.T) {
	files := with(depotOf(web()...), "note.txt", []byte("x"))
	files = with(with(files, arkName(file("x"), ".ark"), file("x")), cardOf(named(9, "")), []byte("no card"))
	le := named(5, "e")
	keeps(t, "no roots", files, nil)
	keeps(t, "e", files, []api.Label{le}, filesFor(files, le)...)
	keeps(t, "d", files, []api.Label{ld, ld}, filesFor(files, ld)...)
	keeps(t, "b", files, []api.Label{lb}, filesFor(files, lb, lc, ld)...)
	keeps(t, "a", files, []api.Label{la}, filesFor(files, la, lb, lc, ld)...)
	keeps(t, "a and e", files, []api.Label{le, la}, filesFor(files, la, lb, lc, ld, le)...)
	keeps(t, "a label that is not there", files, []api.Label{named(8, "x")})
	// The file of a card's name stays, good or not; what it tells of goes, if it is not good.
	keeps(t, "another name", files, []api.Label{{Hash: le.Hash, Name: "x"}}, cardOf(le))
	keeps(t, "another name, and the right one", files, []api.Label{{Hash: le.Hash, Name: "x"}, le}, filesFor(files, le)...)
	keeps(t, "no card", files, []api.Label{named(9, "n")}, cardOf(named(9, "")))
	bad := with(files, cardOf(lc), []byte("x"))
	keeps(t, "c's card is none", bad, []api.Label{la}, append(filesFor(files, la, lb), cardOf(lc))...)
	keeps(t, "c's card is gone", without(files, cardOf(lc)), []api.Label{la}, filesFor(files, la, lb)...)
	keeps(t, "c's file is gone", without(files, cardIn(files, lc).Url), []api.Label{lb}, append(filesFor(files, lb, ld), cardOf(lc))...)
	// A card's file stays, whatever it is called and holds.
	for _, url := range []string{"depot.card", cardOf(le), "note.txt"} {
		odd := without(turned(files, ld, func(c *api.Card) { c.Url = url }), cardIn(files, ld).Url)
		names := []string{cardOf(ld)}
		if url != "depot.card" {
			names = append(names, url)
		}
		keeps(t, "a file called "+url, odd, []api.Label{ld}, names...)
	}
	// One file of two cards.
	shared := depotOf(holds(la, "x"), holds(lb, "x"))
	keeps(t, "one file", shared, []api.Label{la}, filesFor(shared, la)...)
	own := with(depotOf(holds(la, "a")), "depot.card", []byte("Store: /graft/store\nMass: 0\nPriority: 7\n"))
	keeps(t, "another depot.card", own, []api.Label{la}, filesFor(own, la)...)
}

// P17.8, P17.9: roots that are not printable: the first one's error, behind what is wrong with the list.
func TestLooksRoots(t *testing.T) {
	files := depotOf(two()...)
	long := api.Label{Name: strings.Repeat("n", 212)}
	for _, x := range []struct {
		roots []api.Label
		e     api.Errno
	}{
		{[]api.Label{{}}, api.ErrName}, {[]api.Label{{Name: ".x"}}, api.ErrName}, {[]api.Label{{Name: "a b"}}, api.ErrName}, {[]api.Label{{Hash: la.Hash}}, api.ErrName}, {[]api.Label{long}, api.ErrLong}, {[]api.Label{la, long}, api.ErrLong},
		{[]api.Label{la, lc, {Name: "a/"}, long}, api.ErrName}, {[]api.Label{long, {Name: ""}}, api.ErrLong},
	} {
		if got, e := lacked(t, files, x.roots...); e != x.e || len(got) > 0 {
			t.Errorf("P17.8: %s: %q, %d, want %d", showLabels(x.roots), got, e, x.e)
		}
		if got, e := pruned(t, files, x.roots...); e != x.e || len(got) > 0 {
			t.Errorf("P17.9: %s: %q, %d, want %d", showLabels(x.roots), namesOf(got), e, x.e)
		}
	}
	lacks(t, "the longest name", files, []api.Label{{Name: strings.Repeat("n", 211)}}, api.Label{Name: strings.Repeat("n", 211)})
}

// P17.12: Pull out of a pruned depot is as out of the whole one; where Lacks is none there is a good card for each label.
func TestPrunedPull(t *testing.T) {
	files := with(depotOf(web()...), "note.txt", nil)
	for _, spoilt := range [][]api.DepotFile{files, without(files, cardOf(lc)), with(files, cardOf(lc), nil), without(files, cardIn(files, ld).Url), with(files, cardIn(files, lb).Url, nil), turned(files, ld, func(c *api.Card) { c.Ca = "flat" })} {
		for _, roots := range [][]api.Label{nil, {la}, {lb}, {ld}, {named(5, "e")}, {ld, la}} {
			pruned, _ := pruned(t, spoilt, roots...)
			lacking, _ := lacked(t, spoilt, roots...)
			for _, there := range [][]api.Object{nil, {holds(ld, "here")}, {holds(lc, "here")}} {
				one, two := newBoth(t, there...), newBoth(t, there...)
				got, e, l := one.pull(spoilt, roots)
				if more, f, m := two.pull(pruned, roots); !slices.Equal(more, got) || e != f || l != m || one.state() != two.state() {
					t.Errorf("P17.12: %s: %s, %d, %s", showLabels(roots), showLabels(more), f, showLabel(m))
				}
				if _, bad := plain.good(plainFiles(spoilt), l); e != api.OK && len(lacking) == 0 && bad != api.OK {
					t.Errorf("P17.12: %s: no good card for %s: %d", showLabels(roots), showLabel(l), e)
				}
			}
		}
	}
}

func plainFiles(files []api.DepotFile) plain {
	p, _, _ := plainOpen(files)
	return p
}
