package forge

import (
	"slices"

	"graft/api"
	"graft/label"
	"graft/modulo"
	"graft/recipe"
)

// made is the label that an output of a recipe is; false if it is not made.
func (a *asked) made(i int, output string) (api.Label, bool) {
	k := a.list[i]
	if k.mode == floating {
		l, e := a.shelf.Made(modulo.Key(k.sum, output))
		return l, e == api.OK
	}
	o, _ := k.output(output)
	l := parsed(o.Label)
	return l, a.shelf.Has(l)
}

// allMade says whether these outputs of a recipe are made.
func (a *asked) allMade(i int, outputs []string) bool {
	for _, output := range outputs {
		if _, ok := a.made(i, output); !ok {
			return false
		}
	}
	return true
}

// outputNames is the names of all outputs of a recipe.
func (k known) outputNames() []string {
	out := make([]string, len(k.recipe.Outputs))
	for i, o := range k.recipe.Outputs {
		out[i] = o.Name
	}
	return out
}

// wanted is the number of a want's recipe, and the outputs that it wants.
func (a *asked) wanted(w api.Want) (int, []string) {
	i := a.number[w.Recipe]
	if len(w.Outputs) == 0 {
		return i, a.list[i].outputNames()
	}
	return i, w.Outputs
}

// plan is the recipes to be done, by their numbers, what is needed first; or the error, the label of its recipe, and of ErrStep
// the step's number.
func (a *asked) plan(wants []api.Want) ([]int, api.Errno, api.Label, int) {
	plan := a.ordered(a.missing(wants))
	for _, i := range plan {
		switch e, at := Check(a.list[i].recipe); e {
		case api.OK:
		case api.ErrStep:
			return nil, e, a.list[i].label, at
		default:
			return nil, e, a.list[i].label, 0
		}
	}
	return plan, api.OK, api.Label{}, 0
}

// missing is the recipes that must be done, by rising numbers: those of which an output is not made that is wanted, or that one
// of them asks for.
func (a *asked) missing(wants []api.Want) []int {
	in := make([]bool, len(a.list))
	var todo []int
	ask := func(i int, outputs []string) {
		if !in[i] && !a.allMade(i, outputs) {
			in[i] = true
			todo = append(todo, i)
		}
	}
	for _, w := range wants {
		ask(a.wanted(w))
	}
	for len(todo) > 0 {
		k := a.list[todo[len(todo)-1]]
		todo = todo[:len(todo)-1]
		for n, l := range k.inputs {
			ask(a.number[l], k.recipe.Inputs[n].Outputs)
		}
	}
	return slices.DeleteFunc(a.numbers(), func(i int) bool { return !in[i] })
}

// labels is those of some recipes.
func (a *asked) labels(some []int) []api.Label {
	out := make([]api.Label, len(some))
	for place, i := range some {
		out[place] = a.list[i].label
	}
	return out
}

// mades is what the wants' outputs have come to.
func (a *asked) mades(wants []api.Want) []api.Made {
	var out []api.Made
	for _, w := range wants {
		i, outputs := a.wanted(w)
		for _, output := range outputs {
			l, _ := a.made(i, output)
			out = append(out, api.Made{Key: modulo.Key(a.list[i].sum, output), Label: l})
		}
	}
	return out
}

// resolve is a recipe as it is run: the labels that its inputs' outputs are in the place of what stands for them; or the error
// and the label that it is about.
func (a *asked) resolve(i int) (api.Recipe, api.Errno, api.Label) {
	k := a.list[i]
	sources := slices.Clone(k.recipe.Sources)
	var from, to []string
	for n, l := range k.inputs {
		in := k.recipe.Inputs[n]
		for _, output := range in.Outputs {
			is, ok := a.made(a.number[l], output)
			if !ok {
				return api.Recipe{}, api.ErrNone, l
			}
			text, _ := label.Print(is) // the shelf has it, so it is printable
			from, to = append(from, modulo.Stand(in.Recipe, output)), append(to, text)
		}
	}
	r, e := recipe.Swap(k.recipe, from, to)
	if e != api.OK {
		return api.Recipe{}, api.ErrClash, k.label
	}
	sources = append(sources, to...)
	slices.Sort(sources)
	r.Sources, r.Inputs = slices.Compact(sources), nil
	for _, text := range r.Sources {
		if l := parsed(text); !a.shelf.Has(l) {
			return api.Recipe{}, api.ErrNone, l
		}
	}
	return r, api.OK, api.Label{}
}
