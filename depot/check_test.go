package depot

import (
	"bytes"
	"slices"
	"strings"
	"testing"

	"graft/api"
)

// P17.7: each defect alone, with keys and without.
func TestCheck(t *testing.T) {
	right := signed(depotOf(two()...), home)
	a, b := cardOf(la), cardOf(lb)
	urlA := cardIn(right, la).Url
	own := ownText("t", "text")
	wrong := signed(depotOf(append(two(), as(own, api.BySource))...), home)
	for what, x := range map[string]struct {
		files []api.DepotFile
		e     api.Errno
		name  string
	}{
		"nothing wrong":                        {right, api.OK, ""},
		"nothing wrong, packed":                {signed(packedBy("gzip", two()...), home), api.OK, ""},
		"nothing there":                        {depotOf(), api.OK, ""},
		"no card":                              {with(right, a, nil), api.ErrDepot, a},
		"another hash part's card":             {with(right, a, dataOf(right, b)), api.ErrDepot, a},
		"a card in another file":               {with(right, cardOf(lc), dataOf(right, b)), api.ErrDepot, cardOf(lc)},
		"a card of another hash part":          {with(right, cardOf(named(0, "")), dataOf(right, b)), api.ErrDepot, cardOf(named(0, ""))},
		"a file that is gone":                  {without(right, urlA), api.ErrNone, a},
		"a file that differs":                  {with(right, urlA, []byte("x")), api.ErrDiffer, a},
		"no archive":                           {signed(noArchive(), home), api.ErrArk, a},
		"a reference that is not there":        {without(without(right, b), cardIn(right, lb).Url), api.ErrNone, a},
		"a reference of another name":          {signed(depotOf(holds(la, "a", api.Label{Hash: lb.Hash, Name: "x"}), two()[1]), home), api.ErrNone, a},
		"an own object that is wrong":          {wrong, api.ErrWrong, cardOf(own.Label)},
		"a file of nobody":                     {with(right, "note.txt", nil), api.ErrDepot, "note.txt"},
		"a file of nobody, ahead":              {with(right, "", nil), api.ErrDepot, ""},
		"an archive of nobody":                 {with(right, arkName(file("x"), ".ark"), file("x")), api.ErrDepot, arkName(file("x"), ".ark")},
		"a card's name with capitals":          {with(right, strings.ToUpper(part(lc))+".card", dataOf(right, b)), api.ErrDepot, strings.ToUpper(part(lc)) + ".card"},
		"a card's name with a digit that none": {with(right, "e"+a[1:], dataOf(right, a)), api.ErrDepot, "e" + a[1:]},
		"a card's name with a digit more":      {with(right, "0"+a, dataOf(right, a)), api.ErrDepot, "0" + a},
		"a card's name with a digit less":      {with(right, a[1:], dataOf(right, a)), api.ErrDepot, a[1:]},
		"a card in a directory":                {with(right, "x/"+a, dataOf(right, a)), api.ErrDepot, "x/" + a},
		".card alone":                          {with(right, ".card", dataOf(right, a)), api.ErrDepot, ".card"},
		"another depot.card":                   {with(right, "depot.card.gz", ownCard.Data), api.ErrDepot, "depot.card.gz"},
	} {
		finds(t, what, x.files, x.e, x.name)
		finds(t, what, x.files, x.e, x.name, home)
		finds(t, what, x.files, x.e, x.name, away, keyOf("k", "t"), home)
		reversed := copied(x.files)
		slices.Reverse(reversed)
		finds(t, what, reversed, x.e, x.name)
	}
	finds(t, "another key", right, api.ErrTrust, a, away)
	finds(t, "another secret", right, api.ErrTrust, a, keyOf("k", "t"))
	finds(t, "b is not signed", with(right, b, dataOf(depotOf(two()...), b)), api.ErrTrust, b, home)
	finds(t, "no cards to be signed", depotOf(), api.OK, "", home)
}

// noArchive is a depot with a card of a file that is no archive.
func noArchive() []api.DepotFile {
	no := []byte("no archive")
	return with(turned(depotOf(holds(la, "a")), la, func(c *api.Card) {
		c.Url, c.FileSum, c.FileSize, c.ArkSum, c.ArkSize = "no", sumOf(no), len(no), sumOf(no), len(no)
	}), "no", no)
}

// P17.7: of one card the first defect in the chapter's order.
func TestCheckOrder(t *testing.T) {
	own := as(ownText("t", "text"), api.BySource)
	o := referring(own, lc) // wrong, and it refers to what is not there
	name := cardOf(o.Label)
	files := depotOf(o)
	url := cardIn(files, o.Label).Url
	finds(t, "wrong, and a reference", files, api.ErrNone, name)
	finds(t, "no file too", without(files, url), api.ErrNone, name)
	finds(t, "a file that differs too", with(files, url, nil), api.ErrDiffer, name)
	finds(t, "not signed too", with(files, url, nil), api.ErrTrust, name, home)
	finds(t, "another name too", with(without(files, name), cardOf(named(0, "")), dataOf(files, name)), api.ErrDepot, cardOf(named(0, "")), home)
	finds(t, "wrong alone", depotOf(own), api.ErrWrong, cardOf(own.Label))
	finds(t, "wrong, and not signed", depotOf(own), api.ErrTrust, cardOf(own.Label), home)
	finds(t, "wrong, and its file is gone", without(depotOf(own), cardIn(depotOf(own), own.Label).Url), api.ErrNone, cardOf(own.Label))
}

// P17.7: of several files with defects the first by name.
func TestCheckFirst(t *testing.T) {
	all := []api.Object{holds(la, "a"), holds(lb, "b"), holds(lc, "c"), holds(named(255, "z"), "z")}
	right := depotOf(all...)
	faults := map[string]func(files []api.DepotFile) []api.DepotFile{}
	for i, o := range all {
		name := cardOf(o.Label)
		switch i {
		case 0:
			faults[name] = func(files []api.DepotFile) []api.DepotFile { return with(files, name, []byte("x")) }
		case 1:
			faults[name] = func(files []api.DepotFile) []api.DepotFile {
				return with(files, cardIn(right, lb).Url, file("else"))
			}
		case 2:
			faults[name] = func(files []api.DepotFile) []api.DepotFile {
				return turned(files, lc, func(c *api.Card) { c.Ca = "group" })
			}
		case 3:
			faults[name] = func(files []api.DepotFile) []api.DepotFile {
				return turned(files, all[3].Label, func(c *api.Card) { c.Refs = []string{baseOf(ld)} })
			}
		}
	}
	for _, name := range []string{"", "0", "a", "ark/", "b", "depot.card ", "x", "\xff"} {
		faults[name] = func(files []api.DepotFile) []api.DepotFile { return with(files, name, nil) }
	}
	for one, do := range faults {
		for two, more := range faults {
			files := more(do(right))
			if e, name := checked(t, files); e == api.OK || name != min(one, two) && !strings.HasPrefix(name, "ark/") {
				t.Errorf("P17.7: %q and %q: %d, %q", one, two, e, name)
			}
		}
	}
}

// P17.7: which files are told of: by cards that are read, whatever else is wrong with these.
func TestCheckUrls(t *testing.T) {
	right := depotOf(two()...)
	// A card under another's name tells of its file, too; the first defect is the card's own then.
	moved := with(without(depotOf(holds(lb, "hi")), cardOf(lb)), cardOf(named(255, "")), dataOf(right, cardOf(lb)))
	finds(t, "a card under another name", moved, api.ErrDepot, cardOf(named(255, "")))
	// One that is no card by its name tells of nothing.
	hidden := with(without(depotOf(holds(lb, "hi")), cardOf(lb)), "zz.card", dataOf(right, cardOf(lb)))
	finds(t, "a card that is called otherwise", hidden, api.ErrDepot, cardIn(right, lb).Url)
	// depot.card and a card's file may be told of as any other.
	files := turned(right, lb, func(c *api.Card) { c.Url = "depot.card" })
	finds(t, "depot.card as a file", files, api.ErrDiffer, cardOf(lb))
	files = turned(right, lb, func(c *api.Card) { c.Url = cardOf(la) })
	finds(t, "a card as a file", files, api.ErrDiffer, cardOf(lb))
	// A card's file may be called as a card is: that one is no card.
	data := file("hi")
	files = with(turned(depotOf(holds(la, "hi")), la, func(c *api.Card) { c.Url = cardOf(lb) }), cardOf(lb), data)
	finds(t, "an archive called as a card", without(files, arkName(data, ".ark")), api.ErrDepot, cardOf(lb))
	newBoth(t).pulls("an archive called as a card", files, []api.Label{la}, []api.Label{la})
}

// P17.7, N: own objects are named by all cards that are good and whose files are good, and by no others.
func TestCheckNames(t *testing.T) {
	ring := ownGroup(ringOf(2, byNumber)...)
	label := func(i int) api.Label { return ring[i].Label }
	files := depotOf(ring...)
	finds(t, "a ring", files, api.OK, "")
	for i := range ring {
		first, other := label(i), label(1-i)
		// A member whose file is gone is none of the group: the other one's name is wrong by then; the first by name is told.
		gone := without(files, cardIn(files, other).Url)
		want, name := api.ErrWrong, cardOf(first)
		if cardOf(other) < cardOf(first) {
			want, name = api.ErrNone, cardOf(other)
		}
		finds(t, "a member's file is gone", gone, want, name)
	}
	// A guest that an own object refers to is not asked for, if its file is not good.
	g := holds(named(255, "z"), "guest")
	o := ownText("t", "x", g.Label)
	if cardOf(o.Label) > cardOf(g.Label) {
		t.Fatal("another order")
	}
	files = depotOf(o, g)
	finds(t, "a guest", files, api.ErrWrong, cardOf(o.Label))
	finds(t, "a guest whose file is gone", without(files, cardIn(files, g.Label).Url), api.ErrNone, cardOf(g.Label))
	if _, name := checked(t, with(files, cardIn(files, g.Label).Url, bytes.Repeat([]byte("x"), 120))); name != cardOf(g.Label) {
		t.Errorf("P17.7: %s", name)
	}
	// Nor by a card that says so under another's name, though its file is good.
	c := cardIn(files, g.Label)
	c.Url = "copy"
	moved := with(with(files, "copy", g.Ark), cardOf(named(254, "")), cardText(c))
	moved = without(turned(moved, g.Label, func(c *api.Card) { c.Ca = "flat" }), cardIn(files, g.Label).Url)
	finds(t, "a guest's card under another name", moved, api.ErrDepot, cardOf(named(254, "")))
}
