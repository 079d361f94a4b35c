package recipe

import (
	"math/rand/v2"
	"regexp"
	"slices"
	"strconv"
	"strings"
	"testing"

	"graft/api"
)

const (
	hash = "/graft/store/00000000000000000000000000000000-"
	x    = hash + "x"
	y    = hash + "y.recipe"
	sum  = "ba7816bf8f01cfea414140de5dae2223b00361a396177a9cb410ff61f20015ad"
	one  = `Derive([("out","","","")],[],[],"any","builtin:make",[],[("out","")])`
)

// first is the recipe of the first example.
func first() api.Recipe {
	return api.Recipe{
		Outputs: []api.Output{{Name: "out"}}, System: "any", Builder: "builtin:make", Env: []api.Pair{{Key: "out"}},
	}
}

// full is a recipe with several elements in each list.
func full() api.Recipe {
	return api.Recipe{
		Outputs: []api.Output{{Name: "doc"}, {Name: "lib", Label: x + "-lib"}, {Name: "out", Label: x}},
		Inputs:  []api.Input{{Recipe: hash + "a.recipe", Outputs: []string{"out"}}, {Recipe: y, Outputs: []string{"doc", "out"}}},
		Sources: []string{hash + "b", hash + "b.c", x}, System: "any", Builder: "builtin:make",
		Args: []string{"b", "", "a\"\\\n\r\t\x00\xff", "b"},
		Env:  []api.Pair{{Key: "a", Value: "b"}, {Key: "doc"}, {Key: "lib", Value: x + "-lib"}, {Key: "out", Value: x}, {Key: "p"}},
	}
}

// fixed is a recipe whose output's sum is known.
func fixed() api.Recipe {
	r := first()
	r.Outputs[0] = api.Output{Name: "out", Label: x, Algo: "sha256", Sum: sum}
	r.Env[0].Value = x
	return r
}

// floating is a recipe whose outputs are called after what they hold.
func floating() api.Recipe {
	r := full()
	for i := range r.Outputs {
		r.Outputs[i].Label, r.Outputs[i].Algo = "", "r:sha256"
		r.Env[i+1].Value = ""
	}
	return r
}

// What an element of each kind of list is, symbol by symbol.
var elements = map[string][]string{
	"output": {"(", "string", ",", "string", ",", "string", ",", "string", ")"},
	"input":  {"(", "string", ",", "list string", ")"},
	"string": {"string"},
	"pair":   {"(", "string", ",", "string", ")"},
}

// plainForm goes over a text byte by byte, with the symbols that must still come.
func plainForm(text string) (api.Errno, int) {
	todo := strings.Split("D e r i v e ( _output , _input , _string , string , string , _string , _pair )", " ")
	for i, s := range todo {
		todo[i] = strings.Replace(s, "_", "list ", 1)
	}
	slices.Reverse(todo) // the next one is the last
	for at := range len(text) {
		if len(todo) == 0 {
			return api.ErrTail, at
		}
		next := len(todo) - 1
		more, ok := plainStep(todo[next], text[at])
		if !ok {
			return api.ErrTerm, at
		}
		todo = todo[:next]
		for _, s := range slices.Backward(more) {
			todo = append(todo, s)
		}
	}
	if len(todo) > 0 {
		return api.ErrShort, len(text)
	}
	return api.OK, 0
}

// plainStep is what comes in a symbol's place behind that byte; false if the symbol does not begin with it.
func plainStep(symbol string, c byte) ([]string, bool) {
	head, kind, _ := strings.Cut(symbol, " ")
	switch {
	case head == "string":
		return []string{"body"}, c == '"'
	case head == "body" && c == '\\':
		return []string{"escape", "body"}, true
	case head == "body" && c != '"':
		return []string{"body"}, c != '\n' && c != '\r' && c != '\t'
	case head == "escape":
		return nil, strings.IndexByte(`"\nrt`, c) >= 0
	case head == "list":
		return []string{"first " + kind}, c == '['
	case head == "body", (head == "first" || head == "behind") && c == ']':
		return nil, true
	case head == "first" || head == "next":
		more, ok := plainStep(elements[kind][0], c)
		return slices.Concat(more, elements[kind][1:], []string{"behind " + kind}), ok
	case head == "behind":
		return []string{"next " + kind}, c == ','
	}
	return nil, symbol == string(c)
}

var (
	tokens  = regexp.MustCompile(`(?s)"(?:[^"\\]|\\.)*"|[\[\](),]`)
	escapes = strings.NewReplacer("\\", `\\`, "\"", `\"`, "\n", `\n`, "\r", `\r`, "\t", `\t`)
	meant   = strings.NewReplacer(`\\`, "\\", `\"`, "\"", `\n`, "\n", `\r`, "\r", `\t`, "\t")
)

// nest is a string, or what stands in brackets or parentheses.
type nest struct {
	text string
	list []nest
}

func (n nest) texts() []string {
	var out []string
	for _, x := range n.list {
		out = append(out, x.text)
	}
	return out
}

// plainNest reads tokens up to the one that closes them, and says how many those are.
func plainNest(words []string) ([]nest, int) {
	var out []nest
	for i := 0; i < len(words); i++ {
		switch words[i] {
		case "[", "(":
			list, n := plainNest(words[i+1:])
			out = append(out, nest{list: list})
			i += 1 + n
		case "]", ")":
			return out, i
		case ",":
		default:
			out = append(out, nest{text: meant.Replace(words[i][1 : len(words[i])-1])})
		}
	}
	return out, len(words)
}

// plainValue is the recipe of a text that has the form.
func plainValue(text string) api.Recipe {
	all, _ := plainNest(tokens.FindAllString(text, -1))
	parts := all[0].list
	r := api.Recipe{Sources: parts[2].texts(), System: parts[3].text, Builder: parts[4].text, Args: parts[5].texts()}
	for _, o := range parts[0].list {
		r.Outputs = append(r.Outputs, api.Output{Name: o.list[0].text, Label: o.list[1].text, Algo: o.list[2].text, Sum: o.list[3].text})
	}
	for _, in := range parts[1].list {
		r.Inputs = append(r.Inputs, api.Input{Recipe: in.list[0].text, Outputs: in.list[1].texts()})
	}
	for _, p := range parts[6].list {
		r.Env = append(r.Env, api.Pair{Key: p.list[0].text, Value: p.list[1].text})
	}
	return r
}

// plainRead is Read by the chapter's words.
func plainRead(text string) (api.Recipe, api.Errno, int) {
	if len(text) > 65536 {
		return api.Recipe{}, api.ErrLong, 0
	}
	if e, at := plainForm(text); e != api.OK {
		return api.Recipe{}, e, at
	}
	r := plainValue(text)
	if e, at := plainCheck(r); e != api.OK {
		return api.Recipe{}, e, at
	}
	return r, api.OK, 0
}

func plainQuote(texts ...string) string {
	var out []string
	for _, s := range texts {
		out = append(out, `"`+escapes.Replace(s)+`"`)
	}
	return strings.Join(out, ",")
}

// plainText is the text of any recipe, right or not. No two recipes have one text.
func plainText(r api.Recipe) string {
	var outputs, inputs, env []string
	for _, o := range r.Outputs {
		outputs = append(outputs, "("+plainQuote(o.Name, o.Label, o.Algo, o.Sum)+")")
	}
	for _, in := range r.Inputs {
		inputs = append(inputs, "("+plainQuote(in.Recipe)+",["+plainQuote(in.Outputs...)+"])")
	}
	for _, p := range r.Env {
		env = append(env, "("+plainQuote(p.Key, p.Value)+")")
	}
	return "Derive([" + strings.Join(outputs, ",") + "],[" + strings.Join(inputs, ",") + "],[" + plainQuote(r.Sources...) + "]," +
		plainQuote(r.System, r.Builder) + ",[" + plainQuote(r.Args...) + "],[" + strings.Join(env, ",") + "])"
}

var (
	plainName  = regexp.MustCompile(`^[A-Za-z0-9+\-_?=][A-Za-z0-9+\-._?=]{0,127}$`)
	plainLabel = regexp.MustCompile(`^/graft/store/[0-9abcdfghijklmnpqrsvwxyz]{32}-[A-Za-z0-9+\-_?=][A-Za-z0-9+\-._?=]{0,210}$`)
	plainSum   = regexp.MustCompile(`^[0-9a-f]{64}$`)
)

// rises says whether texts are in order, and none is there twice.
func rises(texts []string) bool {
	sorted := slices.Clone(texts)
	slices.Sort(sorted)
	return slices.Equal(slices.Compact(sorted), texts)
}

func plainOutput(o api.Output) bool {
	name := plainName.MatchString(o.Name) && o.Name != "recipe"
	sum := o.Sum == "" || o.Algo != "" && plainSum.MatchString(o.Sum)
	return name && (o.Label == "" || plainLabel.MatchString(o.Label)) && slices.Contains([]string{"", "sha256", "r:sha256"}, o.Algo) && sum
}

func plainInput(in api.Input) bool {
	bad := func(name string) bool { return !plainName.MatchString(name) }
	return plainLabel.MatchString(in.Recipe) && strings.HasSuffix(in.Recipe, ".recipe") &&
		len(in.Outputs) > 0 && !slices.ContainsFunc(in.Outputs, bad)
}

// plainMode is Mode by the chapter's words.
func plainMode(r api.Recipe) int {
	zero, two := len(r.Outputs) > 0, len(r.Outputs) > 0
	for _, o := range r.Outputs {
		zero = zero && o.Algo == ""
		two = two && o.Algo == "r:sha256" && o.Sum == "" && o.Label == ""
	}
	switch {
	case zero:
		return 0
	case two:
		return 2
	case len(r.Outputs) == 1 && r.Outputs[0].Name == "out" && r.Outputs[0].Algo != "" && r.Outputs[0].Sum != "":
		return 1
	}
	return -1
}

// plainCheck is Check by the chapter's words: all that may be wrong, in order.
func plainCheck(r api.Recipe) (api.Errno, int) {
	var names, recipes, keys []string
	var badOutput, badInput, long, unlike, badSource, badKey, lacks bool
	for _, o := range r.Outputs {
		names = append(names, o.Name)
		badOutput = badOutput || !plainOutput(o)
		lacks = lacks || !slices.Contains(r.Env, api.Pair{Key: o.Name, Value: o.Label})
	}
	for _, in := range r.Inputs {
		recipes = append(recipes, in.Recipe)
		badInput = badInput || !plainInput(in)
		long = long || len(in.Outputs) > 256
		unlike = unlike || !rises(in.Outputs)
	}
	for _, s := range r.Sources {
		badSource = badSource || !plainLabel.MatchString(s)
	}
	for _, p := range r.Env {
		keys = append(keys, p.Key)
		badKey = badKey || p.Key == ""
	}
	for _, c := range []struct {
		wrong bool
		e     api.Errno
		field int
	}{
		{len(r.Outputs) > 256, api.ErrLong, 0}, {len(r.Inputs) > 256 || long, api.ErrLong, 1}, {len(r.Sources) > 256, api.ErrLong, 2},
		{len(r.Args) > 256, api.ErrLong, 5}, {len(r.Env) > 256, api.ErrLong, 6},
		{len(r.Outputs) == 0 || badOutput, api.ErrRecipe, 0}, {!rises(names), api.ErrOrder, 0}, {plainMode(r) < 0, api.ErrMixed, 0},
		{badInput, api.ErrRecipe, 1}, {!rises(recipes) || unlike, api.ErrOrder, 1},
		{badSource, api.ErrRecipe, 2}, {!rises(r.Sources), api.ErrOrder, 2},
		{r.System == "", api.ErrRecipe, 3}, {r.Builder == "", api.ErrRecipe, 4},
		{badKey, api.ErrRecipe, 6}, {!rises(keys), api.ErrOrder, 6}, {lacks, api.ErrRecipe, 6},
	} {
		if c.wrong {
			return c.e, c.field
		}
	}
	return api.OK, 0
}

// same says whether two recipes are equal; nil and empty lists are.
func same(a, b api.Recipe) bool { return plainText(a) == plainText(b) }

// holdRead holds what Read answers to a text against the plain reading.
func holdRead(t *testing.T, text string) {
	t.Helper()
	want, wantE, wantAt := plainRead(text)
	r, e, at := Read(text)
	if e != wantE || at != wantAt || !same(r, want) {
		t.Fatalf("P6.1: Read(%s) = %d, %d, %s, want %d, %d, %s", short(text), e, at, short(plainText(r)), wantE, wantAt, short(plainText(want)))
	}
	if e == api.OK {
		if back, e, at := Print(r); back != text || e != api.OK || at != 0 {
			t.Fatalf("P6.2: Print of Read(%s) is %s, %d, %d", short(text), short(back), e, at)
		}
	}
}

// holdRecipe holds what Check, Mode, Print and Read answer to a recipe and its text against the plain reading.
func holdRecipe(t *testing.T, r api.Recipe) {
	t.Helper()
	text := plainText(r)
	if got, want := Mode(r), plainMode(r); got != want {
		t.Fatalf("P6.4: Mode of %s is %d, want %d", short(text), got, want)
	}
	wantE, wantField := plainCheck(r)
	if e, field := Check(r); e != wantE || field != wantField {
		t.Fatalf("P6.3: Check of %s is %d, %d, want %d, %d", short(text), e, field, wantE, wantField)
	}
	holdRead(t, text)
	want := text
	if wantE == api.OK && len(text) > 65536 {
		wantE, wantField = api.ErrLong, -1
	}
	if wantE != api.OK {
		want = ""
	}
	if got, e, field := Print(r); got != want || e != wantE || field != wantField {
		t.Fatalf("P6.2: Print = %s, %d, %d, want %s, %d, %d", short(got), e, field, short(want), wantE, wantField)
	}
}

// short is as much of a text as may be told.
func short(text string) string {
	if len(text) > 300 {
		text = text[:200] + " .. " + text[len(text)-90:]
	}
	return strconv.Quote(text)
}

func sourceOf(seed uint64) *rand.Rand { return rand.New(rand.NewPCG(seed, 6)) }

func pick[T any](r *rand.Rand, list ...T) T { return list[r.IntN(len(list))] }

// someText has any bytes, the nasty ones among them.
func someText(r *rand.Rand) string {
	var out []byte
	for range pick(r, 0, 1, 3, 10) {
		out = append(out, pick(r, "\"\\\n\r\tnrt[](), \x00\x7f\x80\xff"[r.IntN(18)], byte(r.IntN(256)), 'a'))
	}
	return string(out)
}

// someNames is names in order.
func someNames(r *rand.Rand, most int, end string) []string {
	var out []string
	for range r.IntN(most + 1) {
		name := pick(r, "a", "b", "ab", "out", "doc", "A", "-", "_=?+", "z.", "recipe1", strings.Repeat("n", 121))
		out = append(out, name+pick(r, "", "1", "-b", "x.")+end)
	}
	slices.Sort(out)
	return slices.Compact(out)
}

// someLabels is labels' texts in order.
func someLabels(r *rand.Rand, most int, end string) []string {
	out := someNames(r, most, end)
	for i, name := range out {
		digits := []byte(strings.Repeat("0", 32))
		digits[r.IntN(32)] = "0129abz"[r.IntN(7)]
		out[i] = api.Store + string(digits) + "-" + name
	}
	slices.Sort(out)
	return slices.Compact(out)
}

// someRecipe is a recipe that may be, of any mode.
func someRecipe(r *rand.Rand) api.Recipe {
	out := api.Recipe{Sources: someLabels(r, 4, ""), System: "s" + someText(r), Builder: "b" + someText(r)}
	for _, name := range someLabels(r, 4, ".recipe") {
		in := api.Input{Recipe: name, Outputs: someNames(r, 3, "")}
		if len(in.Outputs) == 0 {
			in.Outputs = []string{"recipe"}
		}
		out.Inputs = append(out.Inputs, in)
	}
	for range r.IntN(4) {
		out.Args = append(out.Args, someText(r))
	}
	names := append(someNames(r, 3, ""), "zz")
	switch r.IntN(3) {
	case 0:
		for _, name := range names {
			out.Outputs = append(out.Outputs, api.Output{Name: name, Label: strings.Join(someLabels(r, 1, ""), "")})
		}
	case 1:
		out.Outputs = []api.Output{{Name: "out", Label: pick(r, "", x), Algo: pick(r, "sha256", "r:sha256"), Sum: sum}}
	case 2:
		for _, name := range names {
			out.Outputs = append(out.Outputs, api.Output{Name: name, Algo: "r:sha256"})
		}
	}
	return withEnv(out, map[string]string{"k" + someText(r): someText(r), "\xff" + someText(r): someText(r)})
}

// withEnv is a recipe whose Env has the outputs' labels, and more.
func withEnv(r api.Recipe, more map[string]string) api.Recipe {
	for _, o := range r.Outputs {
		more[o.Name] = o.Label
	}
	r.Env = nil
	for key, value := range more {
		r.Env = append(r.Env, api.Pair{Key: key, Value: value})
	}
	slices.SortFunc(r.Env, func(a, b api.Pair) int { return strings.Compare(a.Key, b.Key) })
	return r
}
