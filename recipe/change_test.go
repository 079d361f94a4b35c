package recipe

import (
	"slices"
	"strings"
	"testing"

	"graft/api"
)

// plainPut is Put by the chapter's words, of as many labels as there are outputs.
func plainPut(r api.Recipe, labels []string) api.Recipe {
	outputs, env := slices.Clone(r.Outputs), slices.Clone(r.Env)
	for i := len(outputs) - 1; i >= 0; i-- { // the first one with a name is the last to put its label in
		outputs[i].Label = labels[i]
		for k := range env {
			if env[k].Key == outputs[i].Name {
				env[k].Value = labels[i]
			}
		}
	}
	r.Outputs, r.Env = outputs, env
	return r
}

// plainBlank is Blank by the chapter's words.
func plainBlank(r api.Recipe) api.Recipe {
	outputs, env := slices.Clone(r.Outputs), slices.Clone(r.Env)
	for i, o := range outputs {
		outputs[i].Label = ""
		for k := range env {
			if env[k].Key == o.Name {
				env[k].Value = ""
			}
		}
	}
	r.Outputs, r.Env = outputs, env
	return r
}

func holdPut(t *testing.T, r api.Recipe, labels []string) {
	t.Helper()
	want := plainPut(r, labels)
	if got, e := Put(r, labels); e != api.OK || !same(got, want) {
		t.Fatalf("P6.6: Put(%s, %q) = %d, %s, want %s", short(plainText(r)), labels, e, short(plainText(got)), short(plainText(want)))
	}
}

func holdBlank(t *testing.T, r api.Recipe) {
	t.Helper()
	if got, want := Blank(r), plainBlank(r); !same(got, want) {
		t.Fatalf("P6.5: Blank(%s) = %s, want %s", short(plainText(r)), short(plainText(got)), short(plainText(want)))
	}
}

// The example 8.
func TestPutExample(t *testing.T) {
	r, e := Put(first(), []string{x})
	if e != api.OK || r.Outputs[0].Label != x || len(r.Env) != 1 || r.Env[0] != (api.Pair{Key: "out", Value: x}) {
		t.Errorf("P6.6: %d, %s", e, plainText(r))
	}
	if got := Blank(r); !same(got, first()) {
		t.Errorf("P6.5: Blank = %s", plainText(got))
	}
}

// P6.5: nothing but the outputs' labels and values goes.
func TestBlank(t *testing.T) {
	r := full()
	want := full()
	want.Outputs = []api.Output{{Name: "doc"}, {Name: "lib"}, {Name: "out"}}
	want.Env = []api.Pair{{Key: "a", Value: "b"}, {Key: "doc"}, {Key: "lib"}, {Key: "out"}, {Key: "p"}}
	if got := Blank(r); !same(got, want) {
		t.Errorf("P6.5: Blank = %s, want %s", short(plainText(got)), short(plainText(want)))
	}
	want = fixed()
	want.Outputs[0].Label, want.Env[0].Value = "", ""
	if got := Blank(fixed()); !same(got, want) || got.Outputs[0].Sum != sum {
		t.Errorf("P6.5: Blank = %s, want %s", short(plainText(got)), short(plainText(want)))
	}
	for _, r := range []api.Recipe{{}, first(), full(), fixed(), floating(), odd()} {
		holdBlank(t, r)
		if got := Blank(r); !same(Blank(got), got) {
			t.Errorf("P6.5: Blank of %s is another one", plainText(got))
		}
	}
}

// odd is no recipe that may be: outputs and keys out of order and several times, keys of no output, an output without a key.
func odd() api.Recipe {
	return api.Recipe{
		Outputs: []api.Output{{Name: "out", Label: "1"}, {Name: "a", Label: "2"}, {Name: "out", Label: "3", Sum: "s"}, {Label: "4"}, {Name: "gone", Algo: "a"}},
		Inputs:  []api.Input{{Recipe: "out", Outputs: []string{"out", "a"}}, {}},
		Sources: []string{"out", "", "1"},
		Args:    []string{"out", "1"},
		Env: []api.Pair{{Key: "out", Value: "5"}, {Key: "z", Value: "6"}, {Key: "", Value: "7"}, {Key: "out", Value: "8"}, {Key: "a", Value: "out"},
			{Key: "ou", Value: "9"}, {Key: "outs", Value: "1"}},
	}
}

// P6.5 and P6.6: outputs of one name, and keys of no output.
func TestPutOdd(t *testing.T) {
	got, e := Put(odd(), []string{"A", "B", "C", "", "\x00"})
	want := odd()
	for i, text := range []string{"A", "B", "C", "", "\x00"} {
		want.Outputs[i].Label = text
	}
	want.Env = []api.Pair{{Key: "out", Value: "A"}, {Key: "z", Value: "6"}, {Key: "", Value: ""}, {Key: "out", Value: "A"}, {Key: "a", Value: "B"},
		{Key: "ou", Value: "9"}, {Key: "outs", Value: "1"}}
	if e != api.OK || !same(got, want) {
		t.Errorf("P6.6: Put = %d, %s, want %s", e, plainText(got), plainText(want))
	}
	for i := range want.Outputs {
		want.Outputs[i].Label = ""
	}
	for _, i := range []int{0, 2, 3, 4} {
		want.Env[i].Value = ""
	}
	if got := Blank(odd()); !same(got, want) {
		t.Errorf("P6.5: Blank = %s, want %s", plainText(got), plainText(want))
	}
}

// P6.6: labels too few and too many.
func TestPutRefuses(t *testing.T) {
	for _, r := range []api.Recipe{{}, first(), full(), odd()} {
		n := len(r.Outputs)
		for k := range n + 4 {
			labels := slices.Repeat([]string{x}, k)
			if k == n {
				holdPut(t, r, labels)
				continue
			}
			if got, e := Put(r, labels); e != api.ErrArg || !same(got, api.Recipe{}) {
				t.Errorf("P6.6: %d labels for %d outputs: %d, %s", k, n, e, plainText(got))
			}
		}
	}
	holdPut(t, api.Recipe{}, nil)
	holdPut(t, api.Recipe{Env: []api.Pair{{Key: "a", Value: "b"}}}, []string{})
}

// P6.5 and P6.6: any recipes.
func TestPutMany(t *testing.T) {
	r := sourceOf(5)
	for range 2000 {
		some := someRecipe(r)
		if r.IntN(2) == 0 { // and such as may not be
			for range r.IntN(4) {
				some.Outputs = append(some.Outputs, api.Output{Name: pick(r, "a", "b", "out", ""), Label: someText(r)})
				some.Env = append(some.Env, api.Pair{Key: pick(r, "a", "b", "out", ""), Value: someText(r)})
			}
		}
		var labels []string
		for range some.Outputs {
			labels = append(labels, pick(r, someText(r), x, y))
		}
		holdPut(t, some, labels)
		holdBlank(t, some)
		put, _ := Put(some, labels)
		if !same(Blank(put), Blank(some)) {
			t.Fatalf("P6.5: Blank of what Put answers is %s, want %s", plainText(Blank(put)), plainText(Blank(some)))
		}
	}
}

// A recipe that may be is one with other labels, and without them.
func TestPutRight(t *testing.T) {
	r := full()
	labels := []string{x, y, hash + strings.Repeat("n", 211)}
	put, e := Put(r, labels)
	if e != api.OK {
		t.Fatalf("P6.6: %d", e)
	}
	for _, r := range []api.Recipe{put, Blank(put), Blank(fixed())} {
		if e, n := Check(r); e != api.OK || n != 0 {
			t.Errorf("Check = %d, %d of %s", e, n, plainText(r))
		}
	}
	put, _ = Put(r, []string{x, "none", y})
	if e, n := Check(put); e != api.ErrRecipe || n != 0 {
		t.Errorf("Check = %d, %d of %s", e, n, plainText(put))
	}
}
