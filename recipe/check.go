package recipe

import (
	"slices"
	"strings"

	"graft/api"
	"graft/digest"
	"graft/label"
)

// The fields' numbers.
const (
	fieldOutputs = iota
	fieldInputs
	fieldSources
	fieldSystem
	fieldBuilder
	fieldArgs
	fieldEnv
)

// The modes.
const (
	modeNone     = -1
	modeInputs   = 0
	modeFixed    = 1
	modeFloating = 2
)

// The algos of outputs that are called after what they hold: of one file's bytes, and of an archive.
const (
	algoFlat = "sha256"
	algoTree = "r:sha256"
)

// sumDigits is how long an output's sum is.
const sumDigits = 2 * len(api.Sum{})

// Check tells whether a recipe may be one: OK, or the error and the number of the field.
func Check(r api.Recipe) (api.Errno, int) {
	if field, ok := longField(r); ok {
		return api.ErrLong, field
	}
	if e := checkOutputs(r); e != api.OK {
		return e, fieldOutputs
	}
	if e := checkInputs(r.Inputs); e != api.OK {
		return e, fieldInputs
	}
	if e := checkSources(r.Sources); e != api.OK {
		return e, fieldSources
	}
	if r.System == "" {
		return api.ErrRecipe, fieldSystem
	}
	if r.Builder == "" {
		return api.ErrRecipe, fieldBuilder
	}
	if e := checkEnv(r); e != api.OK {
		return e, fieldEnv
	}
	return api.OK, 0
}

// longField is the first field whose list is too long; false if there is none.
func longField(r api.Recipe) (int, bool) {
	switch {
	case len(r.Outputs) > api.MaxItems:
		return fieldOutputs, true
	case len(r.Inputs) > api.MaxItems || slices.ContainsFunc(r.Inputs, asksMuch):
		return fieldInputs, true
	case len(r.Sources) > api.MaxItems:
		return fieldSources, true
	case len(r.Args) > api.MaxItems:
		return fieldArgs, true
	case len(r.Env) > api.MaxItems:
		return fieldEnv, true
	}
	return 0, false
}

// asksMuch says whether too many outputs of an input are asked for.
func asksMuch(in api.Input) bool { return len(in.Outputs) > api.MaxItems }

func checkOutputs(r api.Recipe) api.Errno {
	switch {
	case len(r.Outputs) == 0 || !all(r.Outputs, isOutput):
		return api.ErrRecipe
	case !inOrder(r.Outputs, func(o api.Output) string { return o.Name }):
		return api.ErrOrder
	case Mode(r) == modeNone:
		return api.ErrMixed
	}
	return api.OK
}

func checkInputs(inputs []api.Input) api.Errno {
	switch {
	case !all(inputs, isInput):
		return api.ErrRecipe
	case !inOrder(inputs, func(in api.Input) string { return in.Recipe }):
		return api.ErrOrder
	case !all(inputs, func(in api.Input) bool { return inOrder(in.Outputs, itself) }):
		return api.ErrOrder
	}
	return api.OK
}

func checkSources(sources []string) api.Errno {
	switch {
	case !all(sources, isLabel):
		return api.ErrRecipe
	case !inOrder(sources, itself):
		return api.ErrOrder
	}
	return api.OK
}

func checkEnv(r api.Recipe) api.Errno {
	switch {
	case !all(r.Env, func(p api.Pair) bool { return p.Key != "" }):
		return api.ErrRecipe
	case !inOrder(r.Env, keyOf):
		return api.ErrOrder
	case !all(r.Outputs, func(o api.Output) bool { return tells(r.Env, o) }):
		return api.ErrRecipe
	}
	return api.OK
}

func isOutput(o api.Output) bool {
	return isOutputName(o.Name) && o.Name != "recipe" && (o.Label == "" || isLabel(o.Label)) && isSum(o.Algo, o.Sum)
}

func isInput(in api.Input) bool {
	l, e, _ := label.Parse(in.Recipe)
	return e == api.OK && strings.HasSuffix(l.Name, suffix) && len(in.Outputs) > 0 && all(in.Outputs, isOutputName)
}

func isOutputName(name string) bool {
	e, _ := label.Check(name)
	return e == api.OK && len(name) <= api.MaxOutput
}

func isLabel(text string) bool {
	_, e, _ := label.Parse(text)
	return e == api.OK
}

// isSum says whether an output may have that algo, and that sum with it.
func isSum(algo, sum string) bool {
	switch algo {
	case "":
		return sum == ""
	case algoFlat, algoTree:
		return sum == "" || len(sum) == sumDigits && isHex(sum)
	}
	return false
}

func isHex(digits string) bool {
	_, e, _ := digest.UnHex(digits)
	return e == api.OK
}

// tells says whether the environment, its keys being in order, has an output's label under its name.
func tells(env []api.Pair, o api.Output) bool {
	at, ok := slices.BinarySearchFunc(env, o.Name, func(p api.Pair, key string) int { return strings.Compare(p.Key, key) })
	return ok && env[at].Value == o.Label
}

// Mode is 0 of a recipe whose outputs are called after its inputs, 1 of a fixed one, 2 of a floating one, -1 of none.
func Mode(r api.Recipe) int {
	switch {
	case len(r.Outputs) == 0:
		return modeNone
	case all(r.Outputs, func(o api.Output) bool { return o.Algo == "" }):
		return modeInputs
	case len(r.Outputs) == 1 && isFixed(r.Outputs[0]):
		return modeFixed
	case all(r.Outputs, isFloating):
		return modeFloating
	}
	return modeNone
}

func isFixed(o api.Output) bool { return o.Name == "out" && o.Algo != "" && o.Sum != "" }

func isFloating(o api.Output) bool { return o.Algo == algoTree && o.Sum == "" && o.Label == "" }
