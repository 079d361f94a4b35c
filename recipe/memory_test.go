package recipe

import (
	"slices"
	"testing"

	"graft/api"
)

// roomy is a list with room behind it, in which something stands.
func roomy[T any](list []T, stands T) []T {
	room := make([]T, len(list)+3)
	for i := range room {
		room[i] = stands
	}
	copy(room, list)
	return room[:len(list)]
}

// withRoom is a recipe each of whose lists has room behind it, and two of whose inputs share theirs.
func withRoom(r api.Recipe) api.Recipe {
	stands := api.Input{Recipe: "room", Outputs: []string{"room"}}
	for _, in := range r.Inputs {
		stands.Outputs = roomy(in.Outputs, "room")
	}
	r.Outputs, r.Inputs = roomy(r.Outputs, api.Output{Name: "room"}), roomy(r.Inputs, stands)
	for i := range r.Inputs {
		r.Inputs[i].Outputs = stands.Outputs
	}
	r.Sources, r.Args, r.Env = roomy(r.Sources, "room"), roomy(r.Args, "room"), roomy(r.Env, api.Pair{Key: "room"})
	return r
}

// whole is a recipe with all that stands in the room behind its lists.
func whole(r api.Recipe) api.Recipe {
	r.Outputs, r.Inputs, r.Sources = r.Outputs[:cap(r.Outputs)], slices.Clone(r.Inputs[:cap(r.Inputs)]), r.Sources[:cap(r.Sources)]
	r.Args, r.Env = r.Args[:cap(r.Args)], r.Env[:cap(r.Env)]
	for i, in := range r.Inputs {
		r.Inputs[i].Outputs = in.Outputs[:cap(in.Outputs)]
	}
	return r
}

func overwrite[T any](list []T, by T) {
	list = list[:cap(list)]
	for i := range list {
		list[i] = by
	}
}

// overwrites is how each list of a recipe is overwritten, with the room behind it.
func overwrites(r api.Recipe) []func() {
	out := []func(){
		func() { overwrite(r.Outputs, api.Output{Name: "over"}) },
		func() { overwrite(r.Sources, "over") },
		func() { overwrite(r.Args, "over") },
		func() { overwrite(r.Env, api.Pair{Key: "over"}) },
	}
	for _, in := range r.Inputs {
		out = append(out, func() { overwrite(in.Outputs, "over") })
	}
	return append(out, func() { overwrite(r.Inputs, api.Input{Recipe: "over"}) })
}

// changers is each call that makes a recipe of one.
func changers() map[string]func(api.Recipe) api.Recipe {
	return map[string]func(api.Recipe) api.Recipe{
		"Blank": Blank,
		"Put": func(r api.Recipe) api.Recipe {
			out, _ := Put(r, slices.Repeat([]string{x}, len(r.Outputs)))
			return out
		},
		"Swap": func(r api.Recipe) api.Recipe {
			out, _ := Swap(r, []string{"b", "a"}, []string{"a", "bb"})
			return out
		},
		"Swap of nothing": func(r api.Recipe) api.Recipe {
			out, _ := Swap(r, nil, nil)
			return out
		},
		"Read of its text": func(r api.Recipe) api.Recipe {
			out, _, _ := Read(plainText(r))
			return out
		},
	}
}

func roomyRecipes() []api.Recipe {
	shared := full()
	shared.Inputs[0].Outputs = shared.Inputs[1].Outputs
	return []api.Recipe{withRoom(first()), withRoom(full()), withRoom(floating()), withRoom(shared), {}}
}

// What is handed in stays as it was, and the room behind it.
func TestHandedIn(t *testing.T) {
	for i, r := range append(roomyRecipes(), withRoom(odd()), withRoom(api.Recipe{})) {
		before := plainText(whole(r))
		asked := map[string]func(){
			"Print": func() { Print(r) }, "Check": func() { Check(r) }, "Mode": func() { Mode(r) }, "Refs": func() { Refs(r) }, "Call": func() { Call("z", r) },
			"Put of too few": func() { Put(r, nil) }, "Swap of wrong ones": func() { Swap(r, []string{"a", "a"}, []string{"b", "c"}) },
		}
		for name, change := range changers() {
			asked[name] = func() { change(r) }
		}
		for name, ask := range asked {
			ask()
			if got := plainText(whole(r)); got != before {
				t.Errorf("%s changed the recipe %d to %s, from %s", name, i, got, before)
			}
		}
	}
}

// The lists of labels and texts that are handed in stay as they were too.
func TestHandedInLists(t *testing.T) {
	hold := func(what string, ask func(a, b []string), a, b []string) {
		t.Helper()
		a, b = roomy(a, "room"), roomy(b, "room")
		wasA, wasB := slices.Clone(a[:cap(a)]), slices.Clone(b[:cap(b)])
		ask(a, b)
		if !slices.Equal(a[:cap(a)], wasA) || !slices.Equal(b[:cap(b)], wasB) {
			t.Errorf("%s changed what it was handed: %q, %q", what, a[:cap(a)], b[:cap(b)])
		}
	}
	for _, labels := range [][]string{{x, y, x}, {x}, nil, {x, y, x, y}} {
		hold("Put", func(a, _ []string) { Put(full(), a) }, labels, nil)
	}
	for _, from := range [][]string{{"c", "b", "a"}, {"b", "ab", "a"}, {"c", "c", ""}} {
		hold("Swap", func(a, b []string) { Swap(full(), a, b) }, from, []string{"3", "2", "1"})
		hold("Swap", func(a, b []string) { Swap(full(), a, b) }, from, []string{"3", "2"})
	}
}

// What is handed in is not kept: what is written into it later shows nowhere.
func TestNotKept(t *testing.T) {
	for name, change := range changers() {
		for i, r := range roomyRecipes() {
			got := change(r)
			want := plainText(got)
			for _, over := range overwrites(r) {
				over()
			}
			if plainText(got) != want {
				t.Errorf("%s of the recipe %d hangs on what was handed in", name, i)
			}
		}
	}
	labels := []string{x, y, x}
	put, _ := Put(full(), labels)
	want := plainText(put)
	overwrite(labels, "over")
	if plainText(put) != want {
		t.Error("what Put answers hangs on the labels")
	}
	from, to := []string{"b"}, []string{"c"}
	swapped, _ := Swap(full(), from, to)
	want = plainText(swapped)
	overwrite(from, "over")
	overwrite(to, "over")
	if plainText(swapped) != want {
		t.Error("what Swap answers hangs on its texts")
	}
}

// Every list that is handed out is new memory, and has none in common with another one.
func TestHandedOut(t *testing.T) {
	for name, change := range changers() {
		for i := range roomyRecipes() {
			r := roomyRecipes()[i]
			before := plainText(whole(r))
			want := plainText(change(r))
			for k := range overwrites(change(r)) {
				got := change(r)
				over := overwrites(got)[k]
				rest := withoutList(got, k)
				was := plainText(rest)
				over()
				if plainText(rest) != was {
					t.Errorf("%s of the recipe %d: what is written into the list %d shows in another", name, i, k)
				}
				if plainText(whole(r)) != before || plainText(change(r)) != want {
					t.Errorf("%s of the recipe %d: what is written into the list %d shows elsewhere", name, i, k)
				}
			}
		}
	}
}

// withoutList is a recipe without the list that overwrites overwrites by that number.
func withoutList(r api.Recipe, k int) api.Recipe {
	inputs := slices.Clone(r.Inputs)
	switch {
	case k == 0:
		r.Outputs = nil
	case k == 1:
		r.Sources = nil
	case k == 2:
		r.Args = nil
	case k == 3:
		r.Env = nil
	case k-4 < len(inputs):
		inputs[k-4].Outputs = nil
	default:
		inputs = nil
	}
	r.Inputs = inputs
	return r
}

// What is appended to a list that was handed out shows nowhere else.
func TestAppended(t *testing.T) {
	for name, change := range changers() {
		got := change(withRoom(full()))
		want := plainText(got)
		_ = append(got.Outputs, api.Output{Name: "more"})
		_ = append(got.Inputs, api.Input{Recipe: "more"})
		for _, in := range got.Inputs {
			_ = append(in.Outputs, "more", "more", "more")
		}
		_ = append(got.Sources, "more")
		_ = append(got.Args, "more")
		_ = append(got.Env, api.Pair{Key: "more"})
		if plainText(got) != want {
			t.Errorf("%s: what is appended shows elsewhere", name)
		}
	}
}

// Refs hands out new memory at each call.
func TestRefsMemory(t *testing.T) {
	r := withRoom(full())
	before := plainText(whole(r))
	got, _ := Refs(r)
	want := slices.Clone(got)
	overwrite(got, api.Label{Name: "over"})
	again, e := Refs(r)
	if e != api.OK || !slices.Equal(again, want) || plainText(whole(r)) != before {
		t.Errorf("what is written into Refs' answer shows elsewhere")
	}
	for _, over := range overwrites(r) {
		over()
	}
	if !slices.Equal(again, want) {
		t.Errorf("what Refs answers hangs on what was handed in")
	}
}

// nil and empty lists are the same.
func TestNilAndEmpty(t *testing.T) {
	empty := first()
	empty.Inputs, empty.Sources, empty.Args = []api.Input{}, []string{}, []string{}
	for _, r := range []api.Recipe{empty, first()} {
		if text, e, n := Print(r); text != one || e != api.OK || n != 0 {
			t.Errorf("Print = %s, %d, %d", text, e, n)
		}
		for name, change := range changers() {
			if got, want := change(r), change(first()); !same(got, want) {
				t.Errorf("%s = %s, want %s", name, plainText(got), plainText(want))
			}
		}
		a, e := Call("z", r)
		if b, _ := Call("z", first()); a != b || e != api.OK {
			t.Errorf("Call = %v, %d", a, e)
		}
	}
	none := api.Recipe{Outputs: []api.Output{}, Env: []api.Pair{}}
	if e, n := Check(none); e != api.ErrRecipe || n != 0 || Mode(none) != -1 {
		t.Errorf("Check of empty outputs = %d, %d", e, n)
	}
	if got, e := Put(none, []string{}); e != api.OK || !same(got, api.Recipe{}) {
		t.Errorf("Put of no labels = %d", e)
	}
	r := first()
	r.Inputs = []api.Input{{Recipe: y, Outputs: []string{}}}
	if e, n := Check(r); e != api.ErrRecipe || n != 1 {
		t.Errorf("Check of an input's empty outputs = %d, %d", e, n)
	}
}
