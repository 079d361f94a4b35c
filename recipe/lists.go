package recipe

import (
	"graft/api"
)

// all says whether something holds of each element.
func all[T any](list []T, holds func(T) bool) bool {
	for _, x := range list {
		if !holds(x) {
			return false
		}
	}
	return true
}

// inOrder says whether the elements' keys rise, and none is there twice.
func inOrder[T any](list []T, key func(T) string) bool {
	for i := 1; i < len(list); i++ {
		if key(list[i-1]) >= key(list[i]) {
			return false
		}
	}
	return true
}

func itself(text string) string { return text }

func keyOf(p api.Pair) string { return p.Key }

// fresh is a list's elements in new memory.
func fresh[T any](list []T) []T { return append([]T(nil), list...) }

// copyOf is a recipe with none of its lists in common with another.
func copyOf(r api.Recipe) api.Recipe {
	r.Outputs, r.Inputs, r.Sources = fresh(r.Outputs), fresh(r.Inputs), fresh(r.Sources)
	r.Args, r.Env = fresh(r.Args), fresh(r.Env)
	for i, in := range r.Inputs {
		r.Inputs[i].Outputs = fresh(in.Outputs)
	}
	return r
}
