package wire

import (
	"slices"
	"strings"
	"testing"

	"graft/api"
	"graft/label"
)

// exports holds that objects have just this stream, and that an Intake brings them back.
func exports(t *testing.T, objects []api.Object, want string) {
	t.Helper()
	b, e := Export(objects)
	if e != api.OK || string(b) != want {
		t.Fatalf("P16.6: Export(%s) = %d, %s, want %s", showObjects(objects), e, brief(b), brief(want))
	}
	back, e, at := takeAll([]string{want})
	if e != api.OK || at != 0 || showObjects(back) != showObjects(objects) {
		t.Fatalf("P16.8: %d, %d, %s\nwant %s", e, at, showObjects(back), showObjects(objects))
	}
}

func TestExport(t *testing.T) {
	text := textOf(la)
	a := api.Object{Label: la, Ark: file("hi")}
	exports(t, nil, "graftexp"+summed("\x02"+number(8))+summed(number(0)))
	exports(t, []api.Object{}, streamOf())
	body := word(text) + number(0) + number(0) + number(0) + word(string(a.Ark))
	exports(t, []api.Object{a}, "graftexp"+summed("\x01"+number(len(body)))+summed(body)+summed("\x02"+number(8))+summed(number(1)))
	for ca := api.Guest; ca <= api.ByFlat; ca++ {
		o := api.Object{Label: longest, Refs: label.Sort([]api.Label{la, longest, lb}), Ark: file("x"), Maker: text, Ca: ca}
		refs := number(3)
		for _, l := range o.Refs {
			refs += word(textOf(l))
		}
		body := word(textOf(longest)) + refs + word(text) + number(int(ca)) + word(string(o.Ark))
		exports(t, []api.Object{o}, "graftexp"+record(1, body)+record(2, number(1)))
		// As they are handed in: in no order, twice, with references that lead nowhere.
		exports(t, []api.Object{o, a, o, a}, streamOf(o, a, o, a))
	}
	exports(t, []api.Object{greatest()}, streamOf(greatest()))
	exports(t, []api.Object{greatest(), a, greatest()}, streamOf(greatest(), a, greatest()))
}

// wrongObjects is each ground on which an object isn't right.
func wrongObjects() map[string]api.Object {
	change := func(by func(o *api.Object)) api.Object {
		o := api.Object{Label: la, Refs: []api.Label{la, lb}, Ark: file("hi"), Maker: textOf(lb), Ca: api.ByText}
		by(&o)
		return o
	}
	return map[string]api.Object{
		"nothing": {}, "no name": change(func(o *api.Object) { o.Label.Name = "" }), "no such name": change(func(o *api.Object) { o.Label.Name = "a b" }), "a long name": change(func(o *api.Object) { o.Label.Name = longest.Name + "n" }),
		"257 references": change(func(o *api.Object) { o.Refs = many(257, "n") }), "a reference's name": change(func(o *api.Object) { o.Refs[1].Name = "" }), "no order": change(func(o *api.Object) { o.Refs = []api.Label{lb, la} }), "twice": change(func(o *api.Object) { o.Refs = []api.Label{la, la} }),
		"one hash, names in no order": change(func(o *api.Object) { o.Refs = []api.Label{{Hash: la.Hash, Name: "b"}, {Hash: la.Hash, Name: "a"}} }),
		"no maker":                    change(func(o *api.Object) { o.Maker = "m" }), "half a maker": change(func(o *api.Object) { o.Maker = textOf(la)[:46] }), "a maker's base": change(func(o *api.Object) { o.Maker = textOf(la)[13:] }), "a long maker": change(func(o *api.Object) { o.Maker = textOf(longest) + "n" }),
		"Ca 5": change(func(o *api.Object) { o.Ca = 5 }), "Ca 255": change(func(o *api.Object) { o.Ca = 255 }),
		"no archive": change(func(o *api.Object) { o.Ark = nil }), "an archive cut short": change(func(o *api.Object) { o.Ark = o.Ark[:119] }), "a byte behind it": change(func(o *api.Object) { o.Ark = append(o.Ark, 0) }),
		"its padding": change(func(o *api.Object) { o.Ark[19] = 1 }), "large": change(func(o *api.Object) { o.Ark = append(fileOf(api.MaxArk), zeros(8)...) }),
	}
}

func TestExportRefused(t *testing.T) {
	right := holding(la, "a")
	for what, o := range wrongObjects() {
		for _, list := range [][]api.Object{{o}, {o, right}, {right, right, o}, append(slices.Repeat([]api.Object{right}, 4095), o)} {
			if b, e := Export(list); len(b) != 0 || e != api.ErrObject {
				t.Errorf("P16.6: %s: %d, %s", what, e, brief(b))
			}
		}
	}
}

func TestExportMany(t *testing.T) {
	most := slices.Repeat([]api.Object{holding(la, "a"), holding(lb, "b", lb)}, api.MaxObjects/2)
	two := record(1, bodyOf(most[0])) + record(1, bodyOf(most[1]))
	exports(t, most, "graftexp"+strings.Repeat(two, api.MaxObjects/2)+record(2, number(4096)))
	for _, list := range [][]api.Object{append(most, most[0]), append(most, api.Object{}), make([]api.Object, 4097), make([]api.Object, 10000)} {
		if b, e := Export(list); len(b) != 0 || e != api.ErrLong {
			t.Errorf("P16.6: %d objects: %d, %s", len(list), e, brief(b))
		}
	}
}
