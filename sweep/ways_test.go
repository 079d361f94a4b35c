package sweep

import (
	"slices"
	"testing"

	"graft/api"
)

// Ways: each root, each profile and each label that is handed in is a keeper, whose labels are gone over through it.
func TestKeepers(t *testing.T) {
	s, _ := world(t, "a b c d", setTo("root:r", textOf(named('a'))), setTo("root:s", textOf(named('z'))), setTo("root:no", "x"),
		setTo("profile:p", valueOf(0, 5, gen(2, 'b'), gen(4, 'c'), gen(5, 'y'))), setTo("profile:q", valueOf(0, 0)), setTo("profile:no", "x"))
	var got []string
	for _, k := range keepersOf(s, labelsOf("dxd")) {
		for range 2 { // again and again the same
			got = append(got, lettersOf(slices.Collect(k.kept())))
		}
	}
	if want := []string{"a", "a", "z", "z", "bcy", "bcy", "", "", "d", "d", "x", "x", "d", "d"}; !slices.Equal(got, want) {
		t.Errorf("%q, want %q", got, want)
	}
	if got := lettersOf(keptOn(s, labelsOf("dxd")).list()); got != "abcd" {
		t.Errorf("the marks: %s", got)
	}
}

// Going over stops at once when the loop ends.
func TestGoingOverStops(t *testing.T) {
	for _, k := range []keeper{root{Label: named('a')}, generations{gen(1, 'a'), gen(2, 'b')}, given(named('a'))} {
		var seen []api.Label
		for l := range k.kept() {
			seen = append(seen, l)
			break
		}
		if lettersOf(seen) != "a" {
			t.Errorf("%s", lettersOf(seen))
		}
	}
	s, _ := world(t, "", setTo("root:a", "1"), setTo("root:b", "2"))
	for name, data := range valuesOf(s, rootKey) {
		if name != "a" || string(data) != "1" {
			t.Errorf("%s, %s", name, data)
		}
		break
	}
}
