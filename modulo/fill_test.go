package modulo

import (
	"fmt"
	"slices"
	"strings"
	"testing"

	"graft/api"
	"graft/recipe"
)

func refuseFill(t *testing.T, what, name string, r api.Recipe, known []api.Known, want api.Errno, wantAt int) {
	t.Helper()
	if got, e, at := Fill(name, r, known); !same(got, api.Recipe{}) || e != want || at != wantAt {
		t.Errorf("P7.2: %s: %v, %d, %d, want %d, %d", what, got, e, at, want, wantAt)
	}
	if e, at := Fits(name, r, known); e != want || at != wantAt {
		t.Errorf("P7.3: %s: %d, %d, want %d, %d", what, e, at, want, wantAt)
	}
}

// checkFill holds what Fill answers against labels that are written out here.
func checkFill(t *testing.T, what, name string, r api.Recipe, known []api.Known, labels ...string) {
	t.Helper()
	holdFill(t, name, r, known)
	got, e, at := Fill(name, r, known)
	if e != api.OK || at != 0 || len(got.Outputs) != len(labels) {
		t.Fatalf("%s: %d, %d", what, e, at)
	}
	for i, o := range got.Outputs {
		if o.Label != labels[i] || !slices.Contains(got.Env, api.Pair{Key: o.Name, Value: labels[i]}) {
			t.Errorf("%s: %s is %s, want %s", what, o.Name, o.Label, labels[i])
		}
	}
}

// The examples 4 to 6: the labels were made by another program.
func TestFillExamples(t *testing.T) {
	r := read(t, one)
	x := "/graft/store/jf5jnzqkbhhfvjrsskzl86c0xx9z02ql-x"
	checkFill(t, "4", "x", r, nil, x)
	filled, _ := recipe.Put(r, []string{x})
	if e, at := Fits("x", filled, nil); e != api.OK || at != 0 {
		t.Errorf("4: Fits: %d, %d", e, at)
	}
	if e, at := Fits("x", r, nil); e != api.ErrOutput || at != 0 {
		t.Errorf("4: Fits of r: %d, %d", e, at)
	}
	checkFill(t, "two outputs", "x", read(t, two), nil, "/graft/store/abpx1bxmibhys49qpz3as0jv9ykznwkd-x-doc", "/graft/store/x6zqgbd21qkwkv7h5jc4qs6kahvfw76g-x")
	tree := asking(fixed(t, "r:sha256", zeros), y, "out")
	checkFill(t, "5", "x", tree, nil, "/graft/store/wwphma4la5ybzigm86nvhz3w84xnwz6q-x")
	checkFill(t, "5, flat", "x", fixed(t, "sha256", zeros), nil, "/graft/store/alx22cm0vmgcp98zwj57qdj1pjs240fc-x")
	checkFill(t, "6", "x", floating(t), nil, "", "")
	if e, at := Fits("x", floating(t), nil); e != api.OK || at != 0 {
		t.Errorf("6: Fits: %d, %d", e, at)
	}
}

// manyOutputs is a recipe with outputs of those names.
func manyOutputs(names ...string) api.Recipe {
	r := api.Recipe{System: "any", Builder: "builtin:make"}
	for _, name := range names {
		r.Outputs = append(r.Outputs, api.Output{Name: name})
		r.Env = append(r.Env, api.Pair{Key: name})
	}
	return r
}

// P7.2: outputs whose labels would be too long, and the example 7.
func TestFillLong(t *testing.T) {
	for _, c := range []struct {
		name    int
		outputs []string
		e       api.Errno
		at      int
	}{
		{210, []string{"doc", "out"}, api.ErrLong, 0}, {208, []string{"doc", "out"}, api.ErrLong, 0}, {207, []string{"doc", "out"}, api.OK, 0},
		{211, []string{"out"}, api.OK, 0}, {210, []string{"a"}, api.ErrLong, 0}, {209, []string{"a"}, api.OK, 0},
		{208, []string{"a", "bb", "ccc", "dddd"}, api.ErrLong, 2}, {208, []string{"a", "b", "out", "zz", "zzz"}, api.ErrLong, 4},
		{211, []string{"out", "zz"}, api.ErrLong, 1}, {82, []string{strings.Repeat("o", 128)}, api.OK, 0}, {83, []string{strings.Repeat("o", 128)}, api.ErrLong, 0},
	} {
		name := strings.Repeat("n", c.name)
		r := manyOutputs(c.outputs...)
		holdFill(t, name, r, nil)
		if _, e, at := Hash(name, r, nil); e != api.OK || at != 0 {
			t.Errorf("P7.1: a name of %d: %d, %d", c.name, e, at)
		}
		what := fmt.Sprintf("a name of %d with %v", c.name, c.outputs)
		if c.e != api.OK {
			refuseFill(t, what, name, r, nil, c.e, c.at)
		} else if _, e, at := Fill(name, r, nil); e != api.OK || at != 0 {
			t.Errorf("P7.2: %s: %d, %d", what, e, at)
		}
	}
	long := strings.Repeat("n", 211)
	holdFill(t, long, floating(t), nil) // no labels: nothing is too long
	holdFill(t, long, fixed(t, "sha256", zeros), nil)
	if _, e, at := Fill(long, floating(t), nil); e != api.OK || at != 0 {
		t.Errorf("P7.2: a floating one with a long name: %d, %d", e, at)
	}
}

// P7.3: labels that are others: one of several, and which is told.
func TestFitsOthers(t *testing.T) {
	r := manyOutputs("a", "b", "c", "out")
	filled, e, _ := Fill("x", r, nil)
	if e != api.OK {
		t.Fatal(e)
	}
	var labels []string
	for _, o := range filled.Outputs {
		labels = append(labels, o.Label)
	}
	for i := range labels {
		for _, other := range []string{"", store + "x", labels[(i+1)%4], strings.Replace(labels[i], "-x", "-y", 1), labels[i] + "x"} {
			for _, also := range []int{i, 3} {
				put := slices.Clone(labels)
				put[i], put[also] = other, other
				turned, _ := recipe.Put(r, put)
				holdFill(t, "x", turned, nil)
				if e, at := Fits("x", turned, nil); e != api.ErrOutput || at != i {
					t.Errorf("P7.3: %q for %q: %d, %d", other, labels[i], e, at)
				}
			}
		}
	}
	if e, at := Fits("y", filled, nil); e != api.ErrOutput || at != 0 {
		t.Errorf("P7.3: under another name: %d, %d", e, at)
	}
	flat := fixed(t, "sha256", zeros)
	for _, other := range []string{"", "/graft/store/wwphma4la5ybzigm86nvhz3w84xnwz6q-x"} { // that of an archive with this sum
		turned, _ := recipe.Put(flat, []string{other})
		if e, at := Fits("x", turned, nil); e != api.ErrOutput || at != 0 {
			t.Errorf("P7.3: fixed, %q: %d, %d", other, e, at)
		}
	}
}

// P7.2: a fixed output's sum counts, each digit of it.
func TestFillFixed(t *testing.T) {
	seen := map[string]string{}
	for _, algo := range []string{"sha256", "r:sha256"} {
		for _, sum := range []string{zeros, strings.Repeat("f", 64), "1" + zeros[1:], zeros[1:] + "1", strings.Repeat("0123456789abcdef", 4)} {
			r := fixed(t, algo, sum)
			holdHash(t, "x", r, nil)
			holdFill(t, "x", r, nil)
			got, e, _ := Fill("x", r, nil)
			if e != api.OK || seen[got.Outputs[0].Label] != "" {
				t.Errorf("P7.2: %s %s: %d, %s", algo, sum, e, got.Outputs[0].Label)
			}
			seen[got.Outputs[0].Label] = sum
		}
	}
}
