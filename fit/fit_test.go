package fit

import (
	"fmt"
	"slices"
	"strings"
	"testing"

	"graft/api"
	"graft/ark"
	"graft/digest"
	"graft/label"
)

func numbered(i int, name string) api.Label {
	return api.Label{Hash: digest.Fold(digest.Of([]byte(fmt.Sprint(i)))), Name: name}
}

func many(n int) []api.Label {
	var out []api.Label
	for i := range n {
		out = append(out, numbered(i, "n"))
	}
	return label.Sort(out)
}

func TestLabel(t *testing.T) {
	for name, want := range map[string]bool{"a": true, strings.Repeat("n", 211): true, "a.b": true, "": false, ".a": false, "a b": false, strings.Repeat("n", 212): false} {
		if got := Label(numbered(1, name)); got != want {
			t.Errorf("Label of %q = %v", name, got)
		}
	}
}

func TestRefs(t *testing.T) {
	three := many(3)
	a, b, c := three[0], three[1], three[2]
	for what, x := range map[string]struct {
		l    []api.Label
		want bool
	}{
		"none": {nil, true}, "one": {[]api.Label{a}, true}, "in order": {[]api.Label{a, b, c}, true}, "256": {many(256), true}, "257": {many(257), false},
		"twice": {[]api.Label{a, b, b}, false}, "not in order": {[]api.Label{b, a}, false}, "the last two": {[]api.Label{a, c, b}, false},
		"no name": {[]api.Label{{}}, false}, "a later one has none": {[]api.Label{a, {Hash: b.Hash}}, false},
		"one hash, two names": {[]api.Label{a, {Hash: a.Hash, Name: "z"}}, true}, "these turned": {[]api.Label{{Hash: a.Hash, Name: "z"}, a}, false},
	} {
		before := slices.Clone(x.l)
		if got := Refs(x.l); got != x.want || !slices.Equal(before, x.l) {
			t.Errorf("Refs, %s: %v", what, got)
		}
	}
}

func TestMaker(t *testing.T) {
	text, _ := label.Print(numbered(1, "m"))
	for maker, want := range map[string]bool{"": true, text: true, " ": false, "m": false, text[:len(text)-1]: false, text + "/x": false, strings.TrimPrefix(text, api.Store): false} {
		if got := Maker(maker); got != want {
			t.Errorf("Maker of %q = %v", maker, got)
		}
	}
}

func TestCa(t *testing.T) {
	for c := range 256 {
		if got := Ca(api.Ca(c)); got != (c < 5) {
			t.Errorf("Ca of %d = %v", c, got)
		}
	}
}

// Each part of an object makes that it may not be; and each that may be is let be.
func TestObject(t *testing.T) {
	file, _ := ark.Print(api.Node{Kind: api.KindFile})
	text, _ := label.Print(numbered(1, "m"))
	right := func() api.Object {
		return api.Object{Label: numbered(1, "a"), Refs: many(2), Ark: file, Maker: text, Ca: api.ByFlat}
	}
	for what, x := range map[string]struct {
		change func(o *api.Object)
		want   bool
	}{
		"as it is": {func(o *api.Object) {}, true}, "no references, no maker": {func(o *api.Object) { o.Refs, o.Maker, o.Ca = nil, "", 0 }, true},
		"a label": {func(o *api.Object) { o.Label.Name = "" }, false}, "references": {func(o *api.Object) { o.Refs = many(257) }, false}, "a maker": {func(o *api.Object) { o.Maker = "m" }, false},
		"a Ca": {func(o *api.Object) { o.Ca = 5 }, false}, "an archive cut short": {func(o *api.Object) { o.Ark = file[:len(file)-1] }, false}, "no archive": {func(o *api.Object) { o.Ark = nil }, false},
	} {
		o := right()
		x.change(&o)
		if got := Object(o); got != x.want {
			t.Errorf("Object, %s: %v", what, got)
		}
	}
}
