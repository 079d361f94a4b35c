package modulo

import (
	"bytes"
	"cmp"
	"slices"
	"strings"

	"graft/api"
	"graft/digest"
	"graft/label"
	"graft/recipe"
)

// The modes of recipes.
const (
	modeInputs = iota
	modeFixed
	modeFloating
)

// algoFlat is the algo of an output whose sum is that of one file's bytes.
const algoFlat = "sha256"

// subject is a recipe that may be one, and a name that may be one: what is to be named.
type subject struct {
	name   string
	recipe api.Recipe
	known  []api.Known
}

// way is how the recipes of one mode are summed, and what their outputs are called then.
type way struct {
	sum    func(subject) (api.Sum, api.Errno, int)
	labels func(subject, api.Sum) ([]string, api.Errno, int)
}

// wayOf is the way of a recipe that may be one: so it has a mode.
func wayOf(r api.Recipe) way {
	ways := [...]way{
		modeInputs:   {sum: subject.inputsSum, labels: subject.inputsLabels},
		modeFixed:    {sum: subject.fixedSum, labels: subject.fixedLabels},
		modeFloating: {sum: subject.inputsSum, labels: subject.noLabels},
	}
	return ways[recipe.Mode(r)]
}

// inputsSum is the sum of all that a recipe says, but for labels.
func (s subject) inputsSum() (api.Sum, api.Errno, int) {
	asked, unknown := s.asked()
	if unknown >= 0 {
		return api.Sum{}, api.ErrInput, unknown
	}
	bare := recipe.Blank(s.recipe)
	bare.Inputs = nil
	text, e, at := recipe.Print(bare)
	if e != api.OK {
		return api.Sum{}, e, at
	}
	return sumOf("recipe:", s.name, "\n", lines(asked), text), api.OK, 0
}

// fixedSum is the sum of what is known of the one output: how it is made has no part in it.
func (s subject) fixedSum() (api.Sum, api.Errno, int) {
	o := s.recipe.Outputs[0]
	return sumOf("fixed:", s.name, ":", o.Algo, ":", o.Sum), api.OK, 0
}

// inputsLabels is the texts of the labels of outputs that are called after how they are made.
func (s subject) inputsLabels(sum api.Sum) ([]string, api.Errno, int) {
	texts := make([]string, len(s.recipe.Outputs))
	for i, o := range s.recipe.Outputs {
		l, e := label.Output(sum, o.Name, s.name)
		if e != api.OK {
			return nil, e, i
		}
		texts[i], _ = label.Print(l) // whatever is made a label of is printable
	}
	return texts, api.OK, 0
}

// fixedLabels is the text of the label of an output whose sum is known ahead.
func (s subject) fixedLabels(api.Sum) ([]string, api.Errno, int) {
	o := s.recipe.Outputs[0]
	known, _, _ := digest.UnHex(o.Sum) // a recipe that may be one has 64 digits there
	l, _ := label.Fixed(s.name, api.Sum(known), o.Algo == algoFlat)
	text, _ := label.Print(l)
	return []string{text}, api.OK, 0
}

// noLabels is no text for each output: they are called when they have been made.
func (s subject) noLabels(api.Sum) ([]string, api.Errno, int) {
	return make([]string, len(s.recipe.Outputs)), api.OK, 0
}

// ask is an output that is asked for of an input with that sum.
type ask struct {
	sum    api.Sum
	output string
}

func compareAsks(a, b ask) int {
	return cmp.Or(bytes.Compare(a.sum[:], b.sum[:]), strings.Compare(a.output, b.output))
}

// asked is what is asked of a recipe's inputs, in order, and -1; or none and the number of the first input that is not known.
func (s subject) asked() ([]ask, int) {
	tellers := s.tellers()
	if unknown := slices.Index(tellers, nil); unknown >= 0 {
		return nil, unknown
	}
	var asks []ask
	for i, in := range s.recipe.Inputs {
		for _, output := range in.Outputs {
			asks = append(asks, ask{tellers[i].Sum, output})
		}
	}
	slices.SortFunc(asks, compareAsks)
	return slices.Compact(asks), -1
}

// tellers is, for each input, the first element of known that tells of it, or nil.
func (s subject) tellers() []*api.Known {
	inputs := s.recipe.Inputs
	out := make([]*api.Known, len(inputs))
	for i := len(s.known) - 1; i >= 0; i-- { // from the last on: the first has the last word
		k := &s.known[i]
		at, ok := slices.BinarySearchFunc(inputs, k.Recipe, func(in api.Input, text string) int { return strings.Compare(in.Recipe, text) })
		if ok {
			out[at] = k
		}
	}
	return out
}

// lines is a line for each sum: its digits, and what is asked for by it.
func lines(asks []ask) string {
	var text strings.Builder
	for i, a := range asks {
		if i == 0 || asks[i-1].sum != a.sum {
			text.WriteString(digest.Hex(a.sum[:]) + "!")
		} else {
			text.WriteByte(',')
		}
		text.WriteString(a.output)
		if i+1 == len(asks) || asks[i+1].sum != a.sum {
			text.WriteByte('\n')
		}
	}
	return text.String()
}
