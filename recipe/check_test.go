package recipe

import (
	"fmt"
	"slices"
	"strings"
	"testing"

	"graft/api"
	"graft/label"
)

// numbered is n names in order.
func numbered(n int) []string {
	var out []string
	for i := range n {
		out = append(out, fmt.Sprintf("n%03d", i))
	}
	return out
}

// manyInputs is n inputs with m outputs each.
func manyInputs(n, m int) []api.Input {
	var out []api.Input
	for _, name := range numbered(n) {
		out = append(out, api.Input{Recipe: hash + name + ".recipe", Outputs: numbered(m)})
	}
	return out
}

func manySources(n int) []string {
	out := numbered(n)
	for i := range out {
		out[i] = hash + out[i]
	}
	return out
}

// withOutputs is a recipe with these outputs, which its Env tells.
func withOutputs(outputs ...api.Output) api.Recipe {
	return withEnv(api.Recipe{Outputs: outputs, System: "s", Builder: "b"}, map[string]string{})
}

func manyOutputs(n int) api.Recipe {
	var outputs []api.Output
	for _, name := range numbered(n) {
		outputs = append(outputs, api.Output{Name: name})
	}
	return withOutputs(outputs...)
}

// holdCheck holds what Check answers, and that the plain reading says the same.
func holdCheck(t *testing.T, what string, r api.Recipe, wantE api.Errno, want int) {
	t.Helper()
	if e, n := Check(r); e != wantE || n != want {
		t.Errorf("P6.3: %s: Check = %d, %d, want %d, %d", what, e, n, wantE, want)
	}
	holdRecipe(t, r)
}

type spoil struct {
	what  string
	e     api.Errno
	field int
	turn  func(*api.Recipe)
}

// spoils is what may be wrong with a recipe such as full, in the order in which Check asks for it.
func spoils() []spoil {
	long := func(list []string) []string { return append(slices.Clone(list), make([]string, 257)...) }
	return []spoil{
		{"many outputs", api.ErrLong, 0, func(r *api.Recipe) { r.Outputs = append(r.Outputs, make([]api.Output, 257)...) }},
		{"many inputs", api.ErrLong, 1, func(r *api.Recipe) { r.Inputs = append(r.Inputs, make([]api.Input, 257)...) }},
		{"many outputs of an input", api.ErrLong, 1, func(r *api.Recipe) {
			r.Inputs = append(r.Inputs, api.Input{Outputs: make([]string, 257)})
		}},
		{"many sources", api.ErrLong, 2, func(r *api.Recipe) { r.Sources = long(r.Sources) }},
		{"many args", api.ErrLong, 5, func(r *api.Recipe) { r.Args = long(r.Args) }},
		{"many pairs", api.ErrLong, 6, func(r *api.Recipe) { r.Env = append(r.Env, make([]api.Pair, 257)...) }},
		{"a wrong output", api.ErrRecipe, 0, func(r *api.Recipe) { r.Outputs = append(r.Outputs, api.Output{Name: "."}) }},
		{"outputs out of order", api.ErrOrder, 0, func(r *api.Recipe) { r.Outputs = append(r.Outputs, r.Outputs[0]) }},
		{"outputs of unlike modes", api.ErrMixed, 0, func(r *api.Recipe) {
			r.Outputs = append([]api.Output{{Name: "A", Algo: "sha256"}}, r.Outputs...)
		}},
		{"a wrong input", api.ErrRecipe, 1, func(r *api.Recipe) { r.Inputs = append(r.Inputs, api.Input{Recipe: x, Outputs: []string{"out"}}) }},
		{"inputs out of order", api.ErrOrder, 1, func(r *api.Recipe) { r.Inputs = append(r.Inputs, r.Inputs[0]) }},
		{"an input's outputs out of order", api.ErrOrder, 1, func(r *api.Recipe) {
			r.Inputs = append(r.Inputs, api.Input{Recipe: hash + "z.recipe", Outputs: []string{"b", "a"}})
		}},
		{"a wrong source", api.ErrRecipe, 2, func(r *api.Recipe) { r.Sources = append(r.Sources, "zz") }},
		{"sources out of order", api.ErrOrder, 2, func(r *api.Recipe) { r.Sources = append(r.Sources, r.Sources[0]) }},
		{"no system", api.ErrRecipe, 3, func(r *api.Recipe) { r.System = "" }},
		{"no builder", api.ErrRecipe, 4, func(r *api.Recipe) { r.Builder = "" }},
		{"no key", api.ErrRecipe, 6, func(r *api.Recipe) { r.Env = append(r.Env, api.Pair{}) }},
		{"keys out of order", api.ErrOrder, 6, func(r *api.Recipe) { r.Env = append(r.Env, api.Pair{Key: "a"}) }},
		{"an output that Env does not tell", api.ErrRecipe, 6, func(r *api.Recipe) {
			r.Outputs = append(r.Outputs, api.Output{Name: "zz", Label: x})
		}},
	}
}

// P6.3: each error alone, and of any two of them the one that is asked for first.
func TestCheckOrder(t *testing.T) {
	all := spoils()
	for i, a := range all {
		r := full()
		a.turn(&r)
		holdCheck(t, a.what, r, a.e, a.field)
		for _, b := range all[i+1:] {
			r := full()
			a.turn(&r)
			b.turn(&r)
			holdCheck(t, a.what+" and "+b.what, r, a.e, a.field)
			r = full()
			b.turn(&r)
			a.turn(&r)
			holdCheck(t, b.what+" and "+a.what, r, a.e, a.field)
		}
	}
	holdCheck(t, "nothing at all", api.Recipe{}, api.ErrRecipe, 0)
	holdCheck(t, "nothing but outputs", api.Recipe{Outputs: first().Outputs}, api.ErrRecipe, 3)
}

// P6.3: any number of errors in one recipe.
func TestCheckMany(t *testing.T) {
	r := sourceOf(3)
	all := spoils()
	for range 3000 {
		some := pick(r, full(), first(), fixed(), floating(), someRecipe(r))
		for range r.IntN(4) {
			if s := pick(r, all...); !strings.HasSuffix(s.what, "out of order") || len(some.Inputs) > 0 && len(some.Sources) > 0 {
				s.turn(&some)
			}
		}
		holdRecipe(t, some)
	}
}

// P6.3: right ones.
func TestCheckRight(t *testing.T) {
	for i, r := range []api.Recipe{first(), full(), fixed(), floating()} {
		holdCheck(t, fmt.Sprint("right ", i), r, api.OK, 0)
	}
}

// P6.3: lists of MaxItems elements and of one more.
func TestCheckLong(t *testing.T) {
	for n, want := range map[int]api.Errno{1: api.OK, 255: api.OK, 256: api.OK, 257: api.ErrLong, 300: api.ErrLong} {
		field := func(number int) int {
			if want == api.OK {
				return 0
			}
			return number
		}
		holdCheck(t, fmt.Sprint(n, " outputs"), manyOutputs(n), want, 0)
		r := first()
		r.Inputs = manyInputs(n, 1)
		holdCheck(t, fmt.Sprint(n, " inputs"), r, want, field(1))
		r.Inputs = append(manyInputs(3, 2), api.Input{Recipe: y, Outputs: numbered(n)})
		holdCheck(t, fmt.Sprint(n, " outputs of an input"), r, want, field(1))
		r = first()
		r.Sources = manySources(n)
		holdCheck(t, fmt.Sprint(n, " sources"), r, want, field(2))
		r = first()
		r.Args = make([]string, n)
		holdCheck(t, fmt.Sprint(n, " args"), r, want, field(5))
		r = first()
		r.Env = nil
		for _, key := range numbered(n - 1) {
			r.Env = append(r.Env, api.Pair{Key: key, Value: x})
		}
		r.Env = append(r.Env, api.Pair{Key: "out"})
		holdCheck(t, fmt.Sprint(n, " pairs"), r, want, field(6))
	}
}

// P6.3: an output's name.
func TestCheckOutputNames(t *testing.T) {
	for name, want := range map[string]api.Errno{
		"a": api.OK, "out": api.OK, "recipes": api.OK, "Recipe": api.OK, "x.recipe": api.OK, "+-._?=": api.OK, "A0z": api.OK,
		strings.Repeat("n", 127): api.OK, strings.Repeat("n", 128): api.OK,
		strings.Repeat("n", 129): api.ErrRecipe, strings.Repeat("n", 211): api.ErrRecipe, strings.Repeat("n", 212): api.ErrRecipe,
		"recipe": api.ErrRecipe, "": api.ErrRecipe, ".": api.ErrRecipe, ".a": api.ErrRecipe, "a b": api.ErrRecipe, "a/b": api.ErrRecipe,
		"a\x00": api.ErrRecipe, "\xff": api.ErrRecipe, "é": api.ErrRecipe, "a\n": api.ErrRecipe,
	} {
		r := withOutputs(api.Output{Name: name})
		holdCheck(t, fmt.Sprintf("the output %.20q", name), r, want, 0)
		r.Outputs[0].Algo = "r:sha256"
		holdCheck(t, fmt.Sprintf("the floating output %.20q", name), r, want, 0)
		r = first()
		r.Inputs = []api.Input{{Recipe: y, Outputs: []string{name}}}
		if name == "recipe" { // of inputs the chapter does not rule it out
			want = api.OK
		}
		field := 0
		if want != api.OK {
			field = 1
		}
		holdCheck(t, fmt.Sprintf("an input's output %.20q", name), r, want, field)
	}
}

// P6.3: labels' texts, wherever they stand.
func TestCheckLabels(t *testing.T) {
	for text, ok := range map[string]bool{
		x: true, y: true, hash + strings.Repeat("n", 211): true, hash + "-": true, hash + "a.recipe.recipe": true, hash + "recipe.recipe": true,
		hash + strings.Repeat("n", 204) + ".recipe": true, hash + strings.Repeat("n", 205) + ".recipe": false,
		hash + strings.Repeat("n", 212): false, hash: false, hash + ".a": false, hash + ".recipe": false, hash + "a b": false, "x": false,
		"/graft/store/": false, " " + x: false, x + " ": false, x + "/bin": false, strings.Replace(x, "0", "e", 1): false,
		strings.Replace(x, "graft", "Graft", 1): false, strings.TrimPrefix(x, api.Store): false, strings.Replace(x, "0-x", "0_x", 1): false,
		hash + "y.Recipe": true, hash + "yrecipe": true, hash + "y.recipe.": true, hash + "y.recipe.x.recipe": true,
	} {
		want := func(field int, ok bool) (api.Errno, int) {
			if ok {
				return api.OK, 0
			}
			return api.ErrRecipe, field
		}
		e, n := want(0, ok)
		holdCheck(t, "an output's label "+text, withOutputs(api.Output{Name: "out", Label: text}), e, n)
		holdCheck(t, "a fixed output's label "+text, withOutputs(api.Output{Name: "out", Label: text, Algo: "sha256", Sum: sum}), e, n)
		r := first()
		r.Sources = []string{text}
		e, n = want(2, ok)
		holdCheck(t, "a source "+text, r, e, n)
		r = first()
		r.Inputs = []api.Input{{Recipe: text, Outputs: []string{"out"}}}
		e, n = want(1, ok && strings.HasSuffix(text, ".recipe"))
		holdCheck(t, "an input's recipe "+text, r, e, n)
	}
	r := first()
	r.Sources = []string{""}
	holdCheck(t, "an empty source", r, api.ErrRecipe, 2)
	r = first()
	r.Inputs = []api.Input{{Outputs: []string{"out"}}}
	holdCheck(t, "an empty input's recipe", r, api.ErrRecipe, 1)
}

// P6.3 and the examples 5 and 7: each Algo with each kind of Sum.
func TestCheckSums(t *testing.T) {
	capital := strings.Replace(sum, "b", "B", 1)
	for _, bad := range []string{sum[1:], sum + "0", sum + sum, sum[:62], strings.ToUpper(sum), capital, sum[:63] + "g", sum[:63] + " ", "0", " ", sum[:63] + "\n"} {
		for _, algo := range []string{"", "sha256", "r:sha256"} {
			holdCheck(t, algo+" with "+bad, withOutputs(api.Output{Name: "out", Algo: algo, Sum: bad}), api.ErrRecipe, 0)
		}
	}
	for _, algo := range []string{"sha1", "SHA256", "r:", "sha256 ", "r:sha256:", "s", "R:sha256", "\x00"} {
		for _, s := range []string{"", sum, capital} {
			holdCheck(t, algo, withOutputs(api.Output{Name: "out", Algo: algo, Sum: s}), api.ErrRecipe, 0)
		}
	}
	holdCheck(t, "a sum without an algo", withOutputs(api.Output{Name: "out", Sum: sum}), api.ErrRecipe, 0)
	holdCheck(t, "neither", withOutputs(api.Output{Name: "out"}), api.OK, 0)
	for _, s := range []string{sum, strings.Repeat("0", 64), strings.Repeat("f9", 32)} {
		holdCheck(t, "flat", withOutputs(api.Output{Name: "out", Algo: "sha256", Sum: s}), api.OK, 0)
		holdCheck(t, "a tree", withOutputs(api.Output{Name: "out", Algo: "r:sha256", Sum: s, Label: x}), api.OK, 0)
	}
	holdCheck(t, "flat without a sum", withOutputs(api.Output{Name: "out", Algo: "sha256"}), api.ErrMixed, 0)
	holdCheck(t, "floating", withOutputs(api.Output{Name: "out", Algo: "r:sha256"}), api.OK, 0)
	holdCheck(t, "floating with a label", withOutputs(api.Output{Name: "out", Algo: "r:sha256", Label: x}), api.ErrMixed, 0)
}

// P6.3 and the example 5: outputs in order, and of one mode.
func TestCheckOutputs(t *testing.T) {
	out, doc := api.Output{Name: "out"}, api.Output{Name: "doc"}
	sha, tree := api.Output{Name: "out", Algo: "sha256", Sum: sum}, api.Output{Name: "doc", Algo: "r:sha256"}
	for what, c := range map[string]struct {
		outputs []api.Output
		e       api.Errno
	}{
		"none":                      {nil, api.ErrRecipe},
		"out, doc":                  {[]api.Output{out, doc}, api.ErrOrder},
		"doc, out":                  {[]api.Output{doc, out}, api.OK},
		"twice":                     {[]api.Output{doc, doc}, api.ErrOrder},
		"A, a":                      {[]api.Output{{Name: "A"}, {Name: "a"}}, api.OK},
		"a, A":                      {[]api.Output{{Name: "a"}, {Name: "A"}}, api.ErrOrder},
		"a, aa":                     {[]api.Output{{Name: "a"}, {Name: "aa"}}, api.OK},
		"aa, a":                     {[]api.Output{{Name: "aa"}, {Name: "a"}}, api.ErrOrder},
		"a, c, b":                   {[]api.Output{{Name: "a"}, {Name: "c"}, {Name: "b"}}, api.ErrOrder},
		"inputs and floating":       {[]api.Output{tree, out}, api.ErrMixed},
		"floating and fixed":        {[]api.Output{tree, sha}, api.ErrMixed},
		"two fixed":                 {[]api.Output{{Name: "doc", Algo: "sha256", Sum: sum}, sha}, api.ErrMixed},
		"a fixed doc":               {[]api.Output{{Name: "doc", Algo: "sha256", Sum: sum}}, api.ErrMixed},
		"two floating":              {[]api.Output{tree, {Name: "out", Algo: "r:sha256"}}, api.OK},
		"two floating, one labeled": {[]api.Output{tree, {Name: "out", Algo: "r:sha256", Label: x}}, api.ErrMixed},
		"a label and none":          {[]api.Output{{Name: "doc", Label: x}, out}, api.OK},
		"wrong and out of order":    {[]api.Output{out, doc, {Name: "."}}, api.ErrRecipe},
		"out of order and mixed":    {[]api.Output{sha, tree}, api.ErrOrder},
	} {
		holdCheck(t, what, withOutputs(c.outputs...), c.e, 0)
	}
}

// P6.3: inputs and sources in order.
func TestCheckInputs(t *testing.T) {
	a, b := hash+"a.recipe", hash+"b.recipe"
	high := strings.Replace(a, "000-", "00z-", 1)
	ask := func(recipe string, outputs ...string) api.Input { return api.Input{Recipe: recipe, Outputs: outputs} }
	for what, c := range map[string]struct {
		inputs []api.Input
		e      api.Errno
	}{
		"none":                       {nil, api.OK},
		"one":                        {[]api.Input{ask(a, "out")}, api.OK},
		"two":                        {[]api.Input{ask(a, "out"), ask(b, "out")}, api.OK},
		"by the digits":              {[]api.Input{ask(b, "out"), ask(high, "out")}, api.OK},
		"by the names alone":         {[]api.Input{ask(high, "out"), ask(b, "out")}, api.ErrOrder},
		"falling":                    {[]api.Input{ask(b, "out"), ask(a, "out")}, api.ErrOrder},
		"twice":                      {[]api.Input{ask(a, "doc"), ask(a, "out")}, api.ErrOrder},
		"no outputs":                 {[]api.Input{ask(a, "out"), ask(b)}, api.ErrRecipe},
		"no outputs and falling":     {[]api.Input{ask(b, "out"), ask(a)}, api.ErrRecipe},
		"outputs falling":            {[]api.Input{ask(a, "out"), ask(b, "out", "doc")}, api.ErrOrder},
		"outputs twice":              {[]api.Input{ask(a, "out", "out"), ask(b, "out")}, api.ErrOrder},
		"outputs in order":           {[]api.Input{ask(a, "a", "aa", "b"), ask(b, "A", "a")}, api.OK},
		"a wrong output":             {[]api.Input{ask(a, "out", ".")}, api.ErrRecipe},
		"a wrong output, falling":    {[]api.Input{ask(b, "out"), ask(a, "out", "")}, api.ErrRecipe},
		"the name recipe":            {[]api.Input{ask(a, "recipe")}, api.OK},
		"a source's label":           {[]api.Input{ask(x, "out")}, api.ErrRecipe},
		"a label and another's text": {[]api.Input{ask(a, "out"), ask(x, "out")}, api.ErrRecipe},
	} {
		r := first()
		r.Inputs = c.inputs
		field := 1
		if c.e == api.OK {
			field = 0
		}
		holdCheck(t, what, r, c.e, field)
	}
	for _, c := range []struct {
		sources []string
		e       api.Errno
		field   int
	}{
		{nil, api.OK, 0}, {[]string{x}, api.OK, 0}, {[]string{x, y}, api.OK, 0}, {[]string{y, x}, api.ErrOrder, 2}, {[]string{x, x}, api.ErrOrder, 2},
		{[]string{a, b, b}, api.ErrOrder, 2}, {[]string{b, high}, api.OK, 0}, {[]string{high, b}, api.ErrOrder, 2}, {[]string{y, "x"}, api.ErrRecipe, 2},
		{[]string{x, x + "-"}, api.OK, 0}, {[]string{x + "-", x}, api.ErrOrder, 2}, {[]string{a, high, b}, api.ErrOrder, 2},
	} {
		r := first()
		r.Sources = c.sources
		holdCheck(t, fmt.Sprint(c.sources), r, c.e, c.field)
	}
}

// P6.3 and the example 6: the environment's keys, and the outputs' labels in it.
func TestCheckEnv(t *testing.T) {
	env := func(pairs ...string) []api.Pair {
		var out []api.Pair
		for i := 0; i < len(pairs); i += 2 {
			out = append(out, api.Pair{Key: pairs[i], Value: pairs[i+1]})
		}
		return out
	}
	for what, c := range map[string]struct {
		env []api.Pair
		e   api.Errno
	}{
		"as it must be":               {env("doc", "", "out", x), api.OK},
		"with others":                 {env("\x00", "a", "a b", "", "doc", "", "doc\n", "", "out", x, "\xff", x), api.OK},
		"none":                        {nil, api.ErrRecipe},
		"without doc":                 {env("out", x), api.ErrRecipe},
		"without out":                 {env("doc", ""), api.ErrRecipe},
		"another value":               {env("doc", "", "out", x+"y"), api.ErrRecipe},
		"a value where no label is":   {env("doc", x, "out", x), api.ErrRecipe},
		"no value where a label is":   {env("doc", "", "out", ""), api.ErrRecipe},
		"a beginning of a key":        {env("do", "", "doc", "", "ou", x), api.ErrRecipe},
		"falling":                     {env("out", x, "doc", ""), api.ErrOrder},
		"twice":                       {env("doc", "", "doc", "", "out", x), api.ErrOrder},
		"twice with another value":    {env("doc", "", "doc", "b", "out", x), api.ErrOrder},
		"an empty key":                {env("", "", "doc", "", "out", x), api.ErrRecipe},
		"an empty key at the end":     {env("doc", "", "out", x, "", ""), api.ErrRecipe},
		"falling and another value":   {env("out", "", "doc", ""), api.ErrOrder},
		"falling and an empty key":    {env("out", "", "doc", "", "", "a"), api.ErrRecipe},
		"a key that is no name":       {env("a/b c", "", "doc", "", "out", x), api.OK},
		"by bytes, not by characters": {env("doc", "", "out", x, "é", "", "\xff", ""), api.OK},
	} {
		r := withOutputs(api.Output{Name: "doc"}, api.Output{Name: "out", Label: x})
		r.Env = c.env
		field := 6
		if c.e == api.OK {
			field = 0
		}
		holdCheck(t, what, r, c.e, field)
	}
}

// P6.4.
func TestMode(t *testing.T) {
	for _, c := range []struct {
		outputs []api.Output
		want    int
	}{
		{nil, -1},
		{[]api.Output{{}}, 0},
		{[]api.Output{{Name: "out"}}, 0},
		{[]api.Output{{Name: "doc", Label: x, Sum: "sum"}, {Name: "doc"}, {Name: "a"}}, 0},
		{[]api.Output{{Name: "out", Algo: "sha256", Sum: sum}}, 1},
		{[]api.Output{{Name: "out", Algo: "r:sha256", Sum: sum, Label: x}}, 1},
		{[]api.Output{{Name: "out", Algo: "other", Sum: "x", Label: "y"}}, 1},
		{[]api.Output{{Name: "doc", Algo: "sha256", Sum: sum}}, -1},
		{[]api.Output{{Name: "", Algo: "sha256", Sum: sum}}, -1},
		{[]api.Output{{Name: "out", Algo: "sha256"}}, -1},
		{[]api.Output{{Name: "out", Algo: "sha256", Sum: sum}, {Name: "out", Algo: "sha256", Sum: sum}}, -1},
		{[]api.Output{{Name: "out", Algo: "r:sha256"}}, 2},
		{[]api.Output{{Name: "", Algo: "r:sha256"}, {Name: ".", Algo: "r:sha256"}}, 2},
		{[]api.Output{{Name: "out", Algo: "r:sha256", Label: x}}, -1},
		{[]api.Output{{Name: "doc", Algo: "r:sha256", Sum: sum}}, -1},
		{[]api.Output{{Algo: "r:sha256"}, {Algo: "r:sha256", Sum: "s"}}, -1},
		{[]api.Output{{Algo: "r:sha256"}, {Algo: "r:sha256", Label: "s"}}, -1},
		{[]api.Output{{Algo: "r:sha256"}, {}}, -1},
		{[]api.Output{{}, {Algo: "r:sha256"}}, -1},
		{[]api.Output{{}, {Algo: "sha256", Name: "out", Sum: sum}}, -1},
		{[]api.Output{{Algo: "r:sha256"}, {Algo: "sha256"}}, -1},
		{[]api.Output{{Algo: "R:sha256"}}, -1},
	} {
		r := api.Recipe{Outputs: c.outputs}
		if got := Mode(r); got != c.want || plainMode(r) != c.want {
			t.Errorf("P6.4: Mode of %v = %d, want %d", c.outputs, got, c.want)
		}
		r = full()
		r.Outputs = c.outputs
		if got := Mode(r); got != c.want {
			t.Errorf("P6.4: Mode of %v among all else = %d, want %d", c.outputs, got, c.want)
		}
	}
}

// P6.4: all pairs of outputs.
func TestModeAll(t *testing.T) {
	var all []api.Output
	for _, name := range []string{"out", "doc"} {
		for _, algo := range []string{"", "sha256", "r:sha256", "x"} {
			for _, s := range []string{"", sum} {
				for _, l := range []string{"", x} {
					all = append(all, api.Output{Name: name, Label: l, Algo: algo, Sum: s})
				}
			}
		}
	}
	for _, a := range all {
		holdRecipe(t, withOutputs(a))
		for _, b := range all {
			holdRecipe(t, withOutputs(a, b))
		}
	}
}

// "Labels' texts are in the same order as label.Compare has their labels."
func TestLabelOrder(t *testing.T) {
	r := sourceOf(4)
	for range 300 {
		var labels []api.Label
		texts := someLabels(r, 6, "")
		for _, text := range texts {
			l, e, _ := label.Parse(text)
			if e != api.OK {
				t.Fatalf("%q is no label's text", text)
			}
			labels = append(labels, l)
		}
		if !slices.Equal(label.Sort(labels), labels) {
			t.Errorf("%q are in another order", texts)
		}
	}
}
