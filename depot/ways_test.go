package depot

import (
	"slices"
	"strings"
	"testing"

	"graft/api"
)

// Ways: what a depot holds comes out of a channel by name, cards and other files told apart by their names alone.
func TestAll(t *testing.T) {
	digits := part(la)
	cards := []string{cardOf(la), cardOf(lb), strings.Repeat("z", 32) + ".card"}
	others := []string{"", ".card", "depot.card", "note", digits, digits + ".CARD", digits + ".card.gz", digits[1:] + ".card", digits + "0.card", "e" + digits[1:] + ".card", strings.ToUpper(cards[2]), "ark/" + cardOf(la), "ark/x.ark"}
	var files []api.DepotFile
	for _, name := range slices.Concat(cards, others) {
		files = append(files, api.DepotFile{Name: name, Data: []byte(name)})
	}
	for i := range files {
		if files[i].Name == "depot.card" {
			files[i] = ownCard
		}
	}
	d, e, name := open(files)
	if e != api.OK || name != "" {
		t.Fatalf("P17.1: %d, %q", e, name)
	}
	var got []string
	for h := range d.all() {
		got = append(got, h.file().Name)
		_, isCard := h.(*cardFile)
		if isCard != slices.Contains(cards, h.file().Name) {
			t.Errorf("%s: a card: %v", h.file().Name, isCard)
		}
		if _, ok := h.tells(); ok {
			t.Errorf("%s tells of an object", h.file().Name)
		}
	}
	if want := slices.Sorted(slices.Values(slices.Concat(cards, others))); !slices.Equal(got, want) {
		t.Errorf("%q, want %q", got, want)
	}
	for range d.all() {
		break // nothing waits for the rest to be taken
	}
	if n := len(d.all()); n != len(files) {
		t.Errorf("once more: %d", n)
	}
}

// Labels come along a trail each once, always the least that is known.
func TestTrail(t *testing.T) {
	tr := newTrail([]api.Label{lc, la, lc})
	var got []api.Label
	for l := range tr.labels() {
		got = append(got, l)
		switch l {
		case la:
			tr.add([]api.Label{ld, la})
		case lc:
			tr.add([]api.Label{lb, lb, ld})
		}
	}
	if want := []api.Label{la, lc, lb, ld}; !slices.Equal(got, want) {
		t.Errorf("%s, want %s", showLabels(got), showLabels(want))
	}
	tr.add([]api.Label{la})
	tr.add([]api.Label{named(7, "x"), named(6, "y")})
	for l := range tr.labels() {
		if l != named(6, "y") {
			t.Errorf("%s", showLabel(l))
		}
		break
	}
}
