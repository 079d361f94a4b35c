package forge

import (
	"slices"

	"graft/api"
	"graft/ark"
	"graft/digest"
	"graft/label"
	"graft/modulo"
	"graft/recipe"
)

// outputLabels is the labels under which a job's outputs are made: floating ones have scratch labels until it is known what they
// hold.
func (j job) outputLabels() []api.Label {
	out := make([]api.Label, len(j.resolved.Outputs))
	for i, o := range j.resolved.Outputs {
		if j.mode == floating {
			out[i] = api.Label{Hash: modulo.Scratch(j.scratchSum(), o.Name), Name: objectName(j.name, o.Name)}
		} else {
			out[i] = parsed(o.Label)
		}
	}
	return out
}

// scratchSum is what scratch labels are made of: alike for all recipes that are resolved alike, where that can be said.
func (j job) scratchSum() api.Sum {
	if j.hasBare {
		return j.bare
	}
	return j.sum
}

// objectName is what the object of an output is called. It may be no name.
func objectName(name, output string) string {
	if output == "out" {
		return name
	}
	return name + "-" + output
}

// withLabels is a recipe with its outputs' labels put in; "" for those that are none.
func withLabels(r api.Recipe, labels []api.Label) api.Recipe {
	texts := make([]string, len(labels))
	for i, l := range labels {
		texts[i], _ = label.Print(l)
	}
	out, _ := recipe.Put(r, texts) // there is one for each output
	return out
}

// shape makes objects of the outputs' trees; false if they are not what was to be made.
func (j job) shape(trees []api.Node, closure, labels []api.Label) ([]api.Object, bool) {
	c := castOf(slices.Concat(closure, labels))
	arks, hits := make([][]byte, len(trees)), make([][]api.Hit, len(trees))
	for i, n := range trees {
		arks[i], _ = ark.Print(n) // no step leaves a tree that has no archive
		hits[i] = c.hits(arks[i])
	}
	switch j.mode {
	case byInputs:
		return j.guests(c, labels, arks, hits)
	case fixed:
		return j.fixedOne(labels, trees, arks, hits)
	}
	w := own{shelf: j.shelf, closure: closure, cast: c, scratch: labels, trees: trees, arks: arks, hits: hits}
	return w.objects()
}

// guests is objects that are called after how they are made.
func (j job) guests(c cast, labels []api.Label, arks [][]byte, hits [][]api.Hit) ([]api.Object, bool) {
	out := make([]api.Object, len(labels))
	for i, l := range labels {
		refs := c.mentioned(hits[i])
		if len(refs) > api.MaxRefs {
			return nil, false
		}
		out[i] = api.Object{Label: l, Refs: refs, Ark: arks[i], Maker: j.text, Ca: api.Guest}
	}
	return out, true
}

// fixedOne is the one object whose sum was known ahead.
func (j job) fixedOne(labels []api.Label, trees []api.Node, arks [][]byte, hits [][]api.Hit) ([]api.Object, bool) {
	o := j.resolved.Outputs[0]
	made := api.Object{Label: labels[0], Ark: arks[0], Ca: api.BySource}
	data := arks[0]
	if o.Algo == "sha256" {
		if trees[0].Kind != api.KindFile || trees[0].Exec {
			return nil, false
		}
		made.Ca, data = api.ByFlat, trees[0].Data
	}
	sum := digest.Of(data)
	return []api.Object{made}, len(hits[0]) == 0 && digest.Hex(sum[:]) == o.Sum
}
