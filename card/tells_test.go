package card

import (
	"reflect"
	"strings"
	"testing"

	"graft/api"
)

// What another program makes of the bytes "bytes", "packed" and of none.
const (
	sumBytes  = "sha256:1a86nbqhcarmvlkgf4sx3x1ijlb00x57xfk2d0p4zpqb3kcqjw17"
	sumPacked = "sha256:19r72ynnrnmw15lcbwp74gwvr9jr45d2yq75kbyfp33fgc48mjw8"
	sumNone   = "sha256:0mdqa9w1p6cmli6976v4wi0sw9r4p5prkj7lzfd1877wk11c9c73"
)

// thing is an object.
func thing() api.Object {
	return api.Object{
		Label: api.Label{Name: "x"}, Refs: []api.Label{{Name: "x"}, {Hash: api.Hash{0: 1}, Name: "y"}, {Hash: api.Hash{19: 1}, Name: "a"}},
		Ark: []byte("bytes"), Maker: textL + ".recipe", Ca: api.BySource,
	}
}

// holdTells holds Tells of what is refused.
func holdTells(t *testing.T, what string, o api.Object, url, press string, file []byte, want api.Errno) {
	t.Helper()
	c, e := Tells(o, url, press, file)
	if e != want || want != api.OK && !reflect.DeepEqual(c, api.Card{}) {
		t.Errorf("P10.8: %s: Tells = %+v, %d, want %d", what, c, e, want)
	}
	if n, _ := Check(c); want == api.OK && n != api.OK {
		t.Errorf("P10.8: %s: the card may not be one: %d", what, n)
	}
}

// P10.8: the card, written out.
func TestTells(t *testing.T) {
	want := api.Card{
		Label: textL, Url: "a/x", Press: "gzip", FileSum: sumPacked, FileSize: 6, ArkSum: sumBytes, ArkSize: 5,
		Refs: []string{baseB, zeros[1:] + "1-y", "04000000000000000000000000000000-a"}, Maker: baseB + ".recipe", Ca: "source",
	}
	if c, e := Tells(thing(), "a/x", "gzip", []byte("packed")); e != api.OK || !same(c, want) {
		t.Errorf("P10.8: Tells = %+v, %d, want %+v", c, e, want)
	}
	want.Press, want.FileSum, want.FileSize = "none", sumBytes, 5
	if c, e := Tells(thing(), "a/x", "none", []byte("bytes")); e != api.OK || !same(c, want) {
		t.Errorf("P10.8: Tells = %+v, %d, want %+v", c, e, want)
	}
	want.Press, want.FileSum, want.FileSize, want.Refs, want.Maker, want.Ca = "gzip", sumNone, 0, nil, "", ""
	want.ArkSum, want.ArkSize = sumNone, 0
	for _, none := range [][]byte{nil, {}} {
		if c, e := Tells(api.Object{Label: api.Label{Name: "x"}, Ark: none}, "a/x", "gzip", none); e != api.OK || !same(c, want) {
			t.Errorf("P10.8: Tells = %+v, %d, want %+v", c, e, want)
		}
	}
}

// P10.8: every Ca.
func TestTellsCa(t *testing.T) {
	texts := []string{"", "text", "source", "group", "flat"}
	for ca := range 256 {
		o := thing()
		o.Ca = api.Ca(ca)
		c, e := Tells(o, "u", "none", o.Ark)
		if ca < 5 {
			if e != api.OK || c.Ca != texts[ca] {
				t.Errorf("P10.8: Ca %d: %q, %d", ca, c.Ca, e)
			}
			continue
		}
		holdTells(t, "a wrong Ca", o, "u", "none", o.Ark, api.ErrArg)
		// Ahead of all that Check finds.
		o.Label.Name = ""
		holdTells(t, "a wrong Ca and Label", o, "", "", nil, api.ErrArg)
	}
}

// P10.8: makers.
func TestTellsMaker(t *testing.T) {
	n211 := strings.Repeat("n", 211)
	for _, base := range []string{baseB, zeros + "-" + n211, strings.Repeat("z", 32) + "--"} {
		o := thing()
		o.Maker = "/graft/store/" + base
		if c, e := Tells(o, "u", "none", o.Ark); e != api.OK || c.Maker != base {
			t.Errorf("P10.8: the maker %s: %q, %d", o.Maker, c.Maker, e)
		}
	}
	for _, maker := range []string{baseB, "x", " ", "/graft/store/", textL + "/", textL + "\n", "/graft/store/" + zeros + "-", "/graft/store/" + zeros + "-.x", "/graft/store/" + zeros + "-" + n211 + "n", "/graft/stone/" + baseB} {
		o := thing()
		o.Maker = maker
		holdTells(t, "the maker "+maker, o, "u", "none", o.Ark, api.ErrArg)
		o.Label.Name = ""
		holdTells(t, "the maker "+maker+" and a wrong label", o, "", "", nil, api.ErrArg)
	}
}

// P10.8: labels that can't be printed, references that may not be.
func TestTellsLabels(t *testing.T) {
	n211 := strings.Repeat("n", 211)
	for _, name := range []string{"", ".x", "a b", "a/b", n211 + "n", "x\n", "é"} {
		o := thing()
		o.Label.Name = name
		holdTells(t, "the name "+name, o, "u", "none", o.Ark, api.ErrField)
		for i := range o.Refs {
			o := thing()
			o.Refs[i].Name = name
			holdTells(t, "a reference's name "+name, o, "u", "none", o.Ark, api.ErrField)
		}
	}
	o := thing()
	o.Label.Name = n211
	holdTells(t, "a long name", o, "u", "none", o.Ark, api.OK)
	o.Refs[0], o.Refs[1] = o.Refs[1], o.Refs[0]
	holdTells(t, "references out of order", o, "u", "none", o.Ark, api.ErrField)
	o.Refs[0] = o.Refs[1]
	holdTells(t, "a reference twice", o, "u", "none", o.Ark, api.ErrField)
	o.Refs = nil
	for i := range 256 {
		o.Refs = append(o.Refs, api.Label{Hash: api.Hash{19: byte(i)}, Name: "r"})
	}
	holdTells(t, "256 references", o, "u", "none", o.Ark, api.OK)
	o.Refs = append(o.Refs, api.Label{Hash: api.Hash{18: 1, 19: 255}, Name: "r"})
	holdTells(t, "257 references", o, "u", "none", o.Ark, api.ErrField)
}

// P10.8: the file.
func TestTellsFile(t *testing.T) {
	o := thing()
	for press, want := range map[string]api.Errno{"none": api.ErrField, "gzip": api.OK, "": api.ErrField, "zip": api.ErrField} {
		holdTells(t, press+" and another file", o, "u", press, []byte("bytez"), want)
		holdTells(t, press+" and no file", o, "u", press, nil, want)
	}
	for url, want := range map[string]api.Errno{"u": api.OK, "a/b": api.OK, "": api.ErrField, "/u": api.ErrField, "u/": api.ErrField, strings.Repeat("a/", 128): api.ErrField} {
		holdTells(t, "the url "+url, o, url, "none", o.Ark, want)
	}
	holdTells(t, "a file of MaxPress", o, "u", "gzip", make([]byte, api.MaxPress), api.OK)
	holdTells(t, "a file above MaxPress", o, "u", "gzip", make([]byte, api.MaxPress+1), api.ErrField)
	for size, want := range map[int]api.Errno{api.MaxArk: api.OK, api.MaxArk + 1: api.ErrField} {
		o.Ark = make([]byte, size)
		holdTells(t, "a great archive", o, "u", "gzip", []byte("packed"), want)
		holdTells(t, "a great archive as it is", o, "u", "none", o.Ark, want)
	}
}
