package sweep

import (
	"iter"
	"strings"

	"graft/api"
	"graft/label"
	"graft/shelf"
)

// The words with which the keys of roots and profiles begin.
const (
	rootKey    = "root:"
	profileKey = "profile:"
)

// isName says whether a root or a profile may have a name.
func isName(name string) bool {
	e, _ := label.Check(name)
	return e == api.OK
}

// valuesOf goes over the values whose keys are a word and a name, by name.
func valuesOf(s *shelf.Shelf, word string) iter.Seq2[string, []byte] {
	return func(yield func(string, []byte) bool) {
		for _, key := range s.Keys() {
			name, begins := strings.CutPrefix(key, word)
			if !begins || !isName(name) {
				continue
			}
			data, _ := s.Value(key)
			if !yield(name, data) {
				return
			}
		}
	}
}

// rootNamed is the label of a root.
func rootNamed(s *shelf.Shelf, name string) (api.Label, bool) {
	if !isName(name) {
		return api.Label{}, false
	}
	data, e := s.Value(rootKey + name)
	if e != api.OK {
		return api.Label{}, false
	}
	return readRoot(data)
}

// readRoot is the label that a root's value says; false if it is none.
func readRoot(data []byte) (api.Label, bool) {
	l, e, _ := label.Parse(string(data))
	return l, e == api.OK
}

// apply makes a transaction of one step.
func apply(s *shelf.Shelf, x api.Step) api.Errno {
	e, _ := s.Apply([]api.Step{x})
	return e
}
