package recipe

import (
	"graft/api"
)

// Blank is a recipe without its outputs' labels.
func Blank(r api.Recipe) api.Recipe { return relabelled(r, make([]string, len(r.Outputs))) }

// Put puts its outputs' labels into a recipe.
func Put(r api.Recipe, labels []string) (api.Recipe, api.Errno) {
	if len(labels) != len(r.Outputs) {
		return api.Recipe{}, api.ErrArg
	}
	return relabelled(r, labels), api.OK
}

// relabelled is a recipe with other labels for its outputs, in its environment too.
func relabelled(r api.Recipe, labels []string) api.Recipe {
	out := copyOf(r)
	first := make(map[string]int, len(labels)) // of the outputs that have a name, the first
	for i := range out.Outputs {
		out.Outputs[i].Label = labels[i]
		if _, ok := first[out.Outputs[i].Name]; !ok {
			first[out.Outputs[i].Name] = i
		}
	}
	for i, pair := range out.Env {
		if which, ok := first[pair.Key]; ok {
			out.Env[i].Value = labels[which]
		}
	}
	return out
}
