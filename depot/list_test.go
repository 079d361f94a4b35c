package depot

import (
	"slices"
	"strings"
	"testing"

	"graft/api"
)

// P17.1: what each of the five calls asks first. Pull and Push name no label then.

// refusesList holds that all five calls refuse a list, Check with a name; of no files at all Push makes a depot.
func refusesList(t *testing.T, what string, files []api.DepotFile, e api.Errno, name string) {
	t.Helper()
	b := newBoth(t, holds(la, "a"))
	lists := [][]api.DepotFile{files, slices.Clone(files)}
	slices.Reverse(lists[1])
	for _, files := range lists {
		finds(t, what, files, e, name)
		finds(t, what, files, e, name, home)
		for _, roots := range [][]api.Label{nil, {la}, {lb}, {{Name: ".x"}}} {
			b.refusesPull(what, files, roots, e, api.Label{})
			if l, f := lacked(t, files, roots...); f != e || len(l) > 0 {
				t.Errorf("P17.1: %s: Lacks = %q, %d, want %d", what, l, f, e)
			}
			if l, f := pruned(t, files, roots...); f != e || len(l) > 0 {
				t.Errorf("P17.1: %s: Prune = %q, %d, want %d", what, namesOf(l), f, e)
			}
			if len(files) > 0 {
				b.refusesPush(what, files, roots, []api.Key{home}, "gzip", e, api.Label{})
			}
		}
	}
}

// takesList holds that no call refuses a list by itself.
func takesList(t *testing.T, what string, files []api.DepotFile) {
	t.Helper()
	b := newBoth(t, holds(la, "a"))
	b.pulls(what, files, nil, nil)
	b.pulls(what, files, []api.Label{la}, nil)
	if l, e := lacked(t, files, lb); e != api.OK || !slices.Equal(l, []string{baseOf(lb)}) {
		t.Errorf("P17.1: %s: Lacks = %q, %d", what, l, e)
	}
	if l, e := pruned(t, files, la); e != api.OK || namesOf(l) != "depot.card" {
		t.Errorf("P17.1: %s: Prune = %q, %d", what, namesOf(l), e)
	}
	if got := b.pushes(files, nil, "none"); showFiles(got) != showFiles(sortedFiles(files)) {
		t.Errorf("P17.1: %s: Push = %s", what, showFiles(got))
	}
	if e, name := checked(t, files); len(files) > 1 && (e != api.ErrDepot || name == "depot.card") {
		t.Errorf("P17.1: %s: Check = %d, %s", what, e, name)
	}
}

func TestListLong(t *testing.T) {
	most := append(others(api.MaxFiles-1), ownCard)
	takesList(t, "16384 files", most)
	refusesList(t, "16385 files", append(others(api.MaxFiles), ownCard), api.ErrLong, "")
	refusesList(t, "16385 files without a card", others(api.MaxFiles+1), api.ErrLong, "")
	refusesList(t, "16385 files of one name", slices.Repeat([]api.DepotFile{ownCard}, api.MaxFiles+1), api.ErrLong, "")
	refusesList(t, "16384 files, two of one name", append(slices.Clone(most)[1:], ownCard), api.ErrDepot, "depot.card")
	refusesList(t, "16384 files without a card", others(api.MaxFiles), api.ErrDepot, "depot.card")
}

func TestListTwice(t *testing.T) {
	right := depotOf(holds(la, "a"), holds(lb, "b"))
	for i, f := range right {
		for _, data := range []string{string(f.Data), "", "x"} {
			refusesList(t, "twice "+f.Name, append(copied(right), api.DepotFile{Name: f.Name, Data: []byte(data)}), api.ErrDepot, f.Name)
		}
		for _, g := range right[i:] {
			refusesList(t, "twice "+f.Name+" and "+g.Name, append(copied(right), g, f, g), api.ErrDepot, f.Name)
		}
	}
	x, empty := api.DepotFile{Name: "x"}, api.DepotFile{}
	refusesList(t, "twice x", append(copied(right), x, x), api.ErrDepot, "x")
	refusesList(t, "thrice x", append(copied(right), x, x, x), api.ErrDepot, "x")
	refusesList(t, "twice no name", append(copied(right), x, empty, x, empty), api.ErrDepot, "")
	refusesList(t, "twice x, no card", []api.DepotFile{x, x}, api.ErrDepot, "x")
	refusesList(t, "twice x, and one ahead of it without a card", []api.DepotFile{x, {Name: "a"}, x}, api.ErrDepot, "x")
	refusesList(t, "twice x, a wrong card", []api.DepotFile{x, {Name: "depot.card"}, x}, api.ErrDepot, "x")
	// Names that only look alike.
	takesList(t, "unlike names", append([]api.DepotFile{ownCard}, x, empty, api.DepotFile{Name: "X"}, api.DepotFile{Name: "x\x00"}, api.DepotFile{Name: "depot.card "}, api.DepotFile{Name: "Depot.card"}))
}

func TestListOwnCard(t *testing.T) {
	right := depotOf(holds(la, "a"))
	own := string(ownCard.Data)
	refusesList(t, "no files", nil, api.ErrDepot, "depot.card")
	refusesList(t, "no files", []api.DepotFile{}, api.ErrDepot, "depot.card")
	refusesList(t, "no card", without(right, "depot.card"), api.ErrDepot, "depot.card")
	refusesList(t, "one other file", []api.DepotFile{{Name: "x"}}, api.ErrDepot, "depot.card")
	refusesList(t, "its card under another name", []api.DepotFile{{Name: "depot.card.gz", Data: []byte(own)}}, api.ErrDepot, "depot.card")
	for _, text := range []string{
		"", "x", own[:len(own)-1], own + "x", own + own, own + "\n", strings.Replace(own, "40", "040", 1), strings.Replace(own, "40", "1000001", 1), strings.Replace(own, "40", "-1", 1),
		strings.Replace(own, "Mass: 1", "Mass: 2", 1), strings.Replace(own, "/graft/store", "/graft/store/", 1), strings.Replace(own, "Store", "store", 1), string(dataOf(right, cardOf(la))),
		own + strings.Repeat("x", api.MaxCard),
	} {
		refusesList(t, "a wrong card", with(right, "depot.card", []byte(text)), api.ErrDepot, "depot.card")
		refusesList(t, "a wrong card alone", []api.DepotFile{{Name: "depot.card", Data: []byte(text)}}, api.ErrDepot, "depot.card")
	}
	for _, text := range []string{own, strings.Replace(own, "40", "0", 1), strings.Replace(own, "40", "1000000", 1), strings.Replace(own, "Mass: 1", "Mass: 0", 1)} {
		takesList(t, "another card", with(nil, "depot.card", []byte(text)))
		finds(t, "another card", with(right, "depot.card", []byte(text)), api.OK, "")
		b := newBoth(t, holds(la, "a"))
		if got := b.pushes(with(nil, "depot.card", []byte(text)), []api.Label{la}, "none"); string(dataOf(got, "depot.card")) != text {
			t.Errorf("P17.5: depot.card has changed: %q", dataOf(got, "depot.card"))
		}
	}
}

// P17.1: a depot that begins.
func TestListBegins(t *testing.T) {
	b := newBoth(t, holds(la, "a"))
	for _, none := range [][]api.DepotFile{nil, {}} {
		if got := b.pushes(none, nil, "none"); showFiles(got) != showFiles([]api.DepotFile{ownCard}) {
			t.Errorf("P17.1: %s", showFiles(got))
		}
		if got := b.pushes(none, []api.Label{la}, "none"); showFiles(got) != showFiles(depotOf(holds(la, "a"))) {
			t.Errorf("P17.1: %s", showFiles(got))
		}
	}
}

// P17.5 and P17.1: what Push asks for in which order.
func TestPushOrder(t *testing.T) {
	b := newBoth(t, holds(la, "a"))
	long, twice := append(others(api.MaxFiles), ownCard), []api.DepotFile{ownCard, ownCard}
	bad, empty := keyOf("a b", "s"), keyOf("k", "")
	for _, files := range [][]api.DepotFile{long, twice, {{Name: "x"}}, nil} {
		for _, roots := range [][]api.Label{nil, {lb}} {
			b.refusesPush("the press first", files, roots, []api.Key{bad}, "x", api.ErrArg, api.Label{})
			b.refusesPush("a key's name then", files, roots, []api.Key{home, {Name: ".k"}}, "none", api.ErrMark, api.Label{})
			b.refusesPush("the first key first", files, roots, []api.Key{home, empty, bad}, "none", api.ErrArg, api.Label{})
			b.refusesPush("the first key first", files, roots, []api.Key{bad, empty}, "gzip", api.ErrMark, api.Label{})
			b.refusesPush("its name first", files, roots, []api.Key{{Name: "a b"}}, "gzip", api.ErrMark, api.Label{})
		}
	}
	b.refusesPush("the list then", long, []api.Label{lb}, nil, "none", api.ErrLong, api.Label{})
	b.refusesPush("the list then", twice, []api.Label{lb}, nil, "none", api.ErrDepot, api.Label{})
	b.refusesPush("a root then", depotOf(holds(la, "other")), []api.Label{la, lb}, nil, "none", api.ErrNone, lb)
	b.refusesPush("the objects then", append(depotOf(holds(la, "other")), others(api.MaxFiles-3)...), []api.Label{la}, nil, "none", api.ErrDiffer, la)
}
