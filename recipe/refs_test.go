package recipe

import (
	"slices"
	"strings"
	"testing"

	"graft/api"
	"graft/digest"
	"graft/label"
)

// parsed is the labels of texts.
func parsed(t *testing.T, texts ...string) []api.Label {
	t.Helper()
	var out []api.Label
	for _, text := range texts {
		l, e, _ := label.Parse(text)
		if e != api.OK {
			t.Fatalf("%q is no label's text", text)
		}
		out = append(out, l)
	}
	return out
}

func holdRefs(t *testing.T, r api.Recipe, want ...string) {
	t.Helper()
	if got, e := Refs(r); e != api.OK || !slices.Equal(got, parsed(t, want...)) {
		t.Errorf("P6.8: Refs(%s) = %d, %v, want %q", short(plainText(r)), e, got, want)
	}
}

func asks(recipes ...string) []api.Input {
	var out []api.Input
	for _, text := range recipes {
		out = append(out, api.Input{Recipe: text, Outputs: []string{"out"}})
	}
	return out
}

// P6.8 and the example 10.
func TestRefs(t *testing.T) {
	z := strings.Replace(x, "000-", "00z-", 1)
	holdRefs(t, api.Recipe{})
	holdRefs(t, first())
	holdRefs(t, full(), hash+"a.recipe", hash+"b", hash+"b.c", x, y)
	holdRefs(t, api.Recipe{Sources: []string{x}, Inputs: asks(y)}, x, y)
	holdRefs(t, api.Recipe{Sources: []string{x}}, x)
	holdRefs(t, api.Recipe{Inputs: asks(y)}, y)
	holdRefs(t, api.Recipe{Inputs: asks(y, hash+"a.recipe", z)}, hash+"a.recipe", y, z)
	holdRefs(t, api.Recipe{Sources: []string{y}, Inputs: asks(y)}, y)                             // in both
	holdRefs(t, api.Recipe{Sources: []string{x, x, y}, Inputs: asks(y, y)}, x, y)                 // twice in one
	holdRefs(t, api.Recipe{Sources: []string{z, y}, Inputs: asks(x)}, x, y, z)                    // in any order, and no recipe's name
	holdRefs(t, api.Recipe{Sources: []string{z}, Inputs: []api.Input{{Recipe: x}}}, x, z)         // an input without outputs
	holdRefs(t, api.Recipe{Outputs: []api.Output{{Label: x}}, Args: []string{x}, System: x})      // nothing else counts
	holdRefs(t, api.Recipe{Env: []api.Pair{{Key: x, Value: x}}, Sources: []string{y}}, y)         // nor this
	holdRefs(t, api.Recipe{Inputs: []api.Input{{Recipe: y, Outputs: []string{x, z, "none"}}}}, y) // nor an input's outputs
	many := api.Recipe{Sources: manySources(300), Inputs: manyInputs(300, 1)}
	var texts []string
	for _, text := range many.Sources {
		texts = append(texts, text, text+".recipe")
	}
	slices.Sort(texts)
	holdRefs(t, many, texts...)
}

// P6.8: what is no label's text, at every place.
func TestRefsRefuses(t *testing.T) {
	for _, bad := range []string{"", "x", hash, hash + ".a", x + " ", x + "/bin", strings.TrimPrefix(x, api.Store), hash + strings.Repeat("n", 212)} {
		for i := range 3 {
			for _, r := range []api.Recipe{
				{Sources: slices.Insert([]string{x, y}, i, bad), Inputs: asks(x, y)},
				{Sources: []string{x, y}, Inputs: asks(slices.Insert([]string{x, y}, i, bad)...)},
				{Inputs: asks(slices.Insert([]string{x, y}, i, bad)...)},
				{Sources: slices.Insert([]string{bad, bad}, i, x)},
			} {
				if got, e := Refs(r); e != api.ErrRecipe || len(got) != 0 {
					t.Errorf("P6.8: Refs(%s) = %d, %v", plainText(r), e, got)
				}
			}
		}
	}
}

func holdCall(t *testing.T, name string, r api.Recipe, wantE api.Errno) {
	t.Helper()
	want := api.Label{}
	if wantE == api.OK {
		texts := slices.Clone(r.Sources)
		for _, in := range r.Inputs {
			texts = append(texts, in.Recipe)
		}
		want, wantE = label.Call(api.Finger{
			Kind: api.FingerText, Refs: parsed(t, texts...), Inner: digest.Of([]byte(plainText(r))), Name: name + ".recipe",
		})
	}
	if got, e := Call(name, r); got != want || e != wantE {
		t.Errorf("P6.9: Call(%.30q, %s) = %v, %d, want %v, %d", name, short(plainText(r)), got, e, want, wantE)
	}
}

// P6.9 and the example 10: labels whose texts were made by another program, and others.
func TestCall(t *testing.T) {
	two := api.Recipe{
		Outputs: []api.Output{{Name: "doc", Algo: "r:sha256"}, {Name: "out", Algo: "r:sha256"}},
		Inputs:  []api.Input{{Recipe: y, Outputs: []string{"doc", "out"}}}, Sources: []string{x}, System: "any", Builder: "builtin:make",
		Args: []string{"a\"b\\c\nd\re\tf"}, Env: []api.Pair{{Key: "doc"}, {Key: "out"}},
	}
	for _, c := range []struct {
		name string
		r    api.Recipe
		want string
	}{
		{"one", first(), "/graft/store/sn5f45kbgxsp67np51qcv93sww38y3jj-one.recipe"},
		{"z", two, "/graft/store/myc3v640i5qmvwpdpvyq6m5rgiy0jf3p-z.recipe"},
	} {
		l, e := Call(c.name, c.r)
		if text, f := label.Print(l); e != api.OK || f != api.OK || text != c.want {
			t.Errorf("P6.9: Call(%q) = %q, %d, want %q", c.name, text, e, c.want)
		}
	}
	for _, name := range []string{"z", "recipe", "a.recipe", "-", "A0+-._?=", strings.Repeat("n", 204)} {
		for _, r := range []api.Recipe{first(), full(), fixed(), floating(), two} {
			holdCall(t, name, r, api.OK)
			if l, e := Call(name, r); e != api.OK || l.Name != name+".recipe" {
				t.Errorf("P6.9: Call(%q) has the name %q, %d", name, l.Name, e)
			}
		}
	}
}

func refuseCall(t *testing.T, name string, r api.Recipe, want api.Errno) {
	t.Helper()
	if l, e := Call(name, r); l != (api.Label{}) || e != want {
		t.Errorf("P6.9: Call(%.30q, %s) = %v, %d, want %d", name, short(plainText(r)), l, e, want)
	}
}

// P6.9: what has no label.
func TestCallRefuses(t *testing.T) {
	long, lost := first(), first()
	long.Args = []string{strings.Repeat("a", 65536)}
	lost.Sources = manySources(200)
	lost.Inputs = manyInputs(57, 1)
	for name, want := range map[string]api.Errno{
		strings.Repeat("n", 205): api.ErrLong, strings.Repeat("n", 211): api.ErrLong, strings.Repeat("n", 70000): api.ErrLong,
		"": api.ErrName, ".": api.ErrName, ".a": api.ErrName, "a b": api.ErrName, "a/": api.ErrName, "\xff": api.ErrName, "a\x00": api.ErrName,
	} {
		for _, r := range []api.Recipe{first(), full(), lost} {
			refuseCall(t, name, r, want)
		}
		refuseCall(t, name, api.Recipe{}, api.ErrRecipe) // Print's errors come first
		refuseCall(t, name, long, api.ErrLong)
	}
	for _, s := range spoils() {
		r := full()
		s.turn(&r)
		refuseCall(t, "z", r, s.e)
		refuseCall(t, "", r, s.e)
	}
	refuseCall(t, "z", long, api.ErrLong)
}

// P6.9: as many references as a label may have, and one more; one that is there twice is one.
func TestCallMany(t *testing.T) {
	for n, want := range map[int]api.Errno{55: api.OK, 56: api.OK, 57: api.ErrLong, 256: api.ErrLong} {
		r := first()
		r.Sources, r.Inputs = manySources(200), manyInputs(n, 1)
		if e, _ := Check(r); e != api.OK {
			t.Fatalf("%d inputs: %d", n, e)
		}
		if want == api.OK {
			holdCall(t, "z", r, want)
		} else {
			refuseCall(t, "z", r, want)
		}
		refs, e := Refs(r)
		if e != api.OK || len(refs) != 200+n {
			t.Errorf("P6.8: %d references, %d", len(refs), e)
		}
	}
	r := first()
	r.Inputs = manyInputs(256, 1)
	for _, in := range r.Inputs {
		r.Sources = append(r.Sources, in.Recipe)
	}
	if l, e := Call("z", r); e != api.OK || l.Name != "z.recipe" {
		t.Errorf("P6.9: 256 recipes as sources and as inputs: %v, %d", l, e)
	}
	refs, _ := Refs(r)
	text, _, _ := Print(r)
	want, _ := label.Text("z.recipe", []byte(text), refs)
	if l, _ := Call("z", r); l != want || len(refs) != 256 {
		t.Errorf("P6.9: %v, want %v", l, want)
	}
}
