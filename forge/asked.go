package forge

import (
	"maps"
	"slices"
	"strings"

	"graft/api"
	"graft/ark"
	"graft/digest"
	"graft/graph"
	"graft/label"
	"graft/modulo"
	"graft/recipe"
	"graft/shelf"
)

// Modes of recipes, by what their outputs are called after.
const (
	byInputs = 0
	fixed    = 1
	floating = 2
)

// suffix is how the names of recipes' labels end.
const suffix = ".recipe"

// known is a recipe of the shelf; or why there is none at that label.
type known struct {
	fault  api.Errno
	label  api.Label
	text   string // the label's
	name   string
	recipe api.Recipe
	mode   int
	inputs []api.Label // of each input its recipe's label
	sum    api.Sum
}

// asked is all recipes that what is wanted leads to.
type asked struct {
	shelf  *shelf.Shelf
	list   []known // in the order of their labels
	number map[api.Label]int
}

// gather is what is asked for by wants; or its first defect, and the label that it is about.
func gather(s *shelf.Shelf, wants []api.Want) (*asked, api.Errno, api.Label) {
	a := collect(s, wants)
	if e, at := a.unread(); e != api.OK {
		return nil, e, at
	}
	if e, at := a.lacking(wants); e != api.OK {
		return nil, e, at
	}
	if e, at := a.looping(); e != api.OK {
		return nil, e, at
	}
	if e, at := a.unfit(); e != api.OK {
		return nil, e, at
	}
	return a, api.OK, api.Label{}
}

// collect reads the wants' recipes, and what they lead to.
func collect(s *shelf.Shelf, wants []api.Want) *asked {
	var todo []api.Label
	for _, w := range wants {
		todo = append(todo, w.Recipe)
	}
	found := make(map[api.Label]known)
	for len(todo) > 0 {
		l := todo[len(todo)-1]
		todo = todo[:len(todo)-1]
		if _, done := found[l]; done {
			continue
		}
		found[l] = read(s, l)
		todo = append(todo, found[l].inputs...)
	}
	a := &asked{shelf: s, number: make(map[api.Label]int, len(found))}
	for i, l := range label.Sort(slices.Collect(maps.Keys(found))) {
		a.list = append(a.list, found[l])
		a.number[l] = i
	}
	return a
}

// read is the recipe of the shelf at a label.
func read(s *shelf.Shelf, l api.Label) known {
	o, e := s.Get(l)
	if e != api.OK {
		return known{fault: e, label: l}
	}
	n, _, _ := ark.Parse(o.Ark) // it is an archive: else the shelf would not have it
	name := strings.TrimSuffix(l.Name, suffix)
	r, _, _ := recipe.Read(string(n.Data))
	// Call answers no label for what Read refuses, nor for a name that is none; and each one that it answers ends in .recipe.
	if called, e := recipe.Call(name, r); e != api.OK || called != l || n.Kind != api.KindFile || n.Exec {
		return known{fault: api.ErrRecipe, label: l}
	}
	text, _ := label.Print(l) // what Call answers is printable
	k := known{label: l, text: text, name: name, recipe: r, mode: recipe.Mode(r)}
	for _, in := range r.Inputs {
		k.inputs = append(k.inputs, parsed(in.Recipe))
	}
	return k
}

// parsed is the label of a text of which it is known that it is a label's.
func parsed(text string) api.Label {
	l, _, _ := label.Parse(text)
	return l
}

// unread is the first label that is no recipe of the shelf.
func (a *asked) unread() (api.Errno, api.Label) {
	for _, k := range a.list {
		if k.fault != api.OK {
			return k.fault, k.label
		}
	}
	return api.OK, api.Label{}
}

// lacking is the first recipe of which an output is asked for that it has not.
func (a *asked) lacking(wants []api.Want) (api.Errno, api.Label) {
	lack := make([]bool, len(a.list))
	ask := func(l api.Label, outputs []string) {
		i := a.number[l]
		for _, output := range outputs {
			if _, has := a.list[i].output(output); !has {
				lack[i] = true
			}
		}
	}
	for _, w := range wants {
		ask(w.Recipe, w.Outputs)
	}
	for _, k := range a.list {
		for i, in := range k.recipe.Inputs {
			ask(k.inputs[i], in.Outputs)
		}
	}
	if i := slices.Index(lack, true); i >= 0 {
		return api.ErrArg, a.list[i].label
	}
	return api.OK, api.Label{}
}

// output is the output of that name; false if there is none.
func (k known) output(name string) (api.Output, bool) {
	outputs := k.recipe.Outputs
	i, has := slices.BinarySearchFunc(outputs, name, func(o api.Output, name string) int { return strings.Compare(o.Name, name) })
	if !has {
		return api.Output{}, false
	}
	return outputs[i], true
}

// looping is the first recipe that needs itself.
func (a *asked) looping() (api.Errno, api.Label) {
	if ring, e := graph.Cycle(a.graph(a.numbers())); e == api.OK {
		return api.ErrLoop, a.list[ring[0]].label
	}
	return api.OK, api.Label{}
}

// numbers is those of all recipes.
func (a *asked) numbers() []int {
	out := make([]int, len(a.list))
	for i := range out {
		out[i] = i
	}
	return out
}

// graph is some recipes, by rising numbers, with an edge from each to those of its inputs that are among them.
func (a *asked) graph(some []int) api.Graph {
	vertex := make(map[int]int, len(some))
	for v, i := range some {
		vertex[i] = v
	}
	g := api.Graph{N: len(some)}
	for v, i := range some {
		for _, l := range a.list[i].inputs {
			if to, among := vertex[a.number[l]]; among {
				g.Edges = append(g.Edges, [2]int{v, to})
			}
		}
	}
	return g
}

// ordered is some recipes, what is needed first.
func (a *asked) ordered(some []int) []int {
	order, _ := graph.Order(a.graph(some)) // none needs itself, and a shelf has not too many
	out := make([]int, len(order))
	for place, v := range order {
		out[place] = some[v]
	}
	return out
}

// unfit is the first recipe, in the order of need, that has a text in it that stands for nothing, or labels that do not follow
// from it. All recipes ahead of it have their sums then.
func (a *asked) unfit() (api.Errno, api.Label) {
	for _, i := range a.ordered(a.numbers()) {
		k := &a.list[i]
		if !k.standsFit() {
			return api.ErrInput, k.label
		}
		sums := a.sumsFor(*k)
		if e, _ := modulo.Fits(k.name, k.recipe, sums); e != api.OK {
			return api.ErrOutput, k.label
		}
		k.sum, _, _ = modulo.Hash(k.name, k.recipe, sums) // Fits has asked for it
	}
	return api.OK, api.Label{}
}

// sumsFor is the sums of a recipe's inputs.
func (a *asked) sumsFor(k known) []api.Known {
	out := make([]api.Known, len(k.inputs))
	for i, l := range k.inputs {
		out[i] = api.Known{Recipe: k.recipe.Inputs[i].Recipe, Sum: a.list[a.number[l]].sum}
	}
	return out
}

// standsFit says whether each text in a recipe that looks like a Stand is that of an output that it asks for.
func (k known) standsFit() bool {
	stands := make(map[string]int)
	for i, in := range k.recipe.Inputs {
		for _, output := range in.Outputs {
			stands[modulo.Stand(in.Recipe, output)] = i
		}
	}
	for _, arg := range k.recipe.Args {
		if !allStands(arg, stands) {
			return false
		}
	}
	for _, pair := range k.recipe.Env {
		if !allStands(pair.Value, stands) {
			return false
		}
	}
	return true
}

// standSize is how many bytes a Stand has: a slash and its digits.
const standSize = 53

// allStands says whether each slash of a text with that many digits behind it begins one of these.
func allStands(text string, stands map[string]int) bool {
	for {
		at := strings.IndexByte(text, '/')
		if at < 0 || len(text)-at < standSize {
			return true
		}
		piece := text[at : at+standSize]
		// What the digits come to has no part in it.
		if _, e, _ := digest.UnBase32(piece[1:]); e != api.ErrDigit {
			if _, is := stands[piece]; !is {
				return false
			}
		}
		text = text[at+1:]
	}
}
