package forge

import (
	"fmt"
	"math/rand/v2"
	"slices"
	"strings"
	"testing"

	"graft/api"
	"graft/digest"
	"graft/label"
	"graft/modulo"
	"graft/recipe"
)

// Shelves with recipes by chance, on which Plan, Resolve and Make are held against the plain reading, journals byte by byte.

// chance is a world that is made by chance.
type chance struct {
	*world
	source  *rand.Rand
	sources []api.Label
	recipes []api.Label
	wrong   int // of so many recipes one is wrong in some way; 0: none
}

func chanceBy(t *testing.T, source *rand.Rand, wrong int) *chance {
	c := &chance{world: newWorld(t), source: source, wrong: wrong}
	own1, own2 := tree("t", file("own")), tree("u", dir(entry("x", program("y"))))
	guest1 := guest(numbered(1), file("guest"))
	guest2 := guest(numbered(2), dir(entry("f", file(part(guest1.Label)+part(numbered(2))))), guest1.Label, numbered(2))
	text := "see " + part(own1.Label)
	l, _ := label.Text("v", []byte(text), []api.Label{own1.Label})
	text1 := api.Object{Label: l, Refs: []api.Label{own1.Label}, Ark: arkFor(file(text)), Ca: api.ByText}
	for _, o := range []api.Object{own1, own2, guest1, guest2, text1} {
		c.put(o)
		c.sources = append(c.sources, o.Label)
	}
	for range 1 + source.IntN(7) {
		c.recipe()
	}
	return c
}

// some is a few of a list.
func some[T any](source *rand.Rand, list []T, most int) []T {
	var out []T
	for _, i := range source.Perm(len(list)) {
		if len(out) < most && source.IntN(2) == 0 {
			out = append(out, list[i])
		}
	}
	return out
}

// recipe lays one more recipe on the shelf.
func (c *chance) recipe() {
	source := c.source
	name := pick(source, "a", "b", "a", "b", "a", strings.Repeat("n", 204))
	mode := pick(source, 0, 1, 2, 2, 2)
	r := recipeOf(mode, pick(source, "out", "out", "doc out", "dev doc out", "details out", "out tmp"))
	if mode == 1 {
		r = c.fixed()
	}
	r = from(r, some(source, c.sources, 2)...)
	texts := []string{"plain", "x y", "$$", ""}
	var ways []string
	for _, text := range r.Sources {
		ways = append(ways, text)
		texts = append(texts, text, text[13:45], "see "+text[13:45]+" "+text[13:45])
	}
	for _, in := range some(source, c.recipes, 3) {
		outputs := some(source, c.outputsOf(in), 2)
		if len(outputs) == 0 {
			outputs = c.outputsOf(in)[:1]
		}
		slices.Sort(outputs)
		if c.wrongly() {
			outputs = append(outputs, "zzz")
		}
		r = asking(r, in, strings.Join(outputs, " "))
		for _, output := range outputs {
			ways = append(ways, stand(in, output))
			texts = append(texts, stand(in, output), stand(in, output))
		}
	}
	if mode != 1 {
		for _, o := range r.Outputs {
			texts = append(texts, "${"+o.Name+"}", "${"+o.Name+"}")
		}
	}
	value := pick(source, texts...)
	if strings.Contains(value, "$") {
		value = "v"
	}
	r = given(r, "env", value)
	texts = append(texts, "${env}")
	if mode != 1 {
		for _, o := range r.Outputs {
			r.Args = append(r.Args, c.steps(o.Name, ways, texts)...)
		}
	}
	c.spoil(&r)
	// One that can't be filled is laid down as it is: its labels are wrong.
	if _, e, _ := modulo.Fill(name, r, c.known); e != api.OK || c.wrongly() {
		if e, _ := recipe.Check(r); e != api.OK {
			return
		}
		if _, e := label.Output(api.Sum{}, "details", name); mode != 2 && e != api.OK {
			return
		}
		c.recipes = append(c.recipes, c.layAs(name, r))
		return
	}
	c.recipes = append(c.recipes, c.lay(name, r))
}

func (c *chance) wrongly() bool { return c.wrong > 0 && c.source.IntN(c.wrong*10) == 0 }

// outputsOf is the names of a recipe's outputs.
func (c *chance) outputsOf(l api.Label) []string {
	r, _, _ := recipe.Read(c.bytes(l))
	var out []string
	for _, o := range r.Outputs {
		out = append(out, o.Name)
	}
	return out
}

// fixed is a fixed recipe, most often one that makes what its sum says.
func (c *chance) fixed() api.Recipe {
	data := pick(c.source, "abc", "", "xyz", "1\n2\n")
	r := flat(data, "file out "+data)
	if c.source.IntN(2) == 0 {
		r = deep(dir(entry("f", program(data))), "dir out", "file out/f "+data, "exec out/f")
	}
	if c.wrongly() {
		r.Args = append(r.Args, pick(c.source, "exec out", "text out more", "drop out", "dir tmp"))
	}
	return r
}

// steps is steps that make an output.
func (c *chance) steps(output string, ways, texts []string) []string {
	source := c.source
	text := func() string { return pick(source, texts...) }
	switch source.IntN(7) {
	case 0:
		return []string{"file " + output + " " + text()}
	case 1:
		return []string{"file " + output + " " + text(), "line " + output + " " + text(), "text " + output + " " + text()}
	case 2:
		return []string{"dir " + output, "file " + output + "/f " + text(), "link " + output + "/l x" + text(), "exec " + output + "/f"}
	case 3:
		if len(ways) > 0 {
			return []string{"copy " + output + " " + pick(source, ways...)}
		}
	case 4:
		if len(ways) > 0 {
			return []string{"dir " + output, "copy " + output + "/c " + pick(source, ways...), "need " + pick(source, ways...), "file " + output + "/f " + text()}
		}
	case 5:
		if len(ways) > 0 {
			return []string{"list " + output + " " + pick(source, ways...), "line " + output + " " + text()}
		}
	}
	return []string{"dir " + output, "dir " + output + "/d", "file " + output + "/d/f " + text(), "sum " + output + "/s " + output + "/d"}
}

// spoil makes a recipe wrong, now and then.
func (c *chance) spoil(r *api.Recipe) {
	if !c.wrongly() {
		return
	}
	switch c.source.IntN(8) {
	case 0:
		r.Args = append(r.Args, "fail x")
	case 1:
		r.Args = append(r.Args, "drop "+r.Outputs[0].Name)
	case 2:
		r.Args = append(r.Args, "no step")
	case 3:
		r.Builder = "other"
	case 4:
		r.Args = append(r.Args, "need /"+strings.Repeat("0", 52))
	case 5:
		*r = given(*r, "stand", "/"+strings.Repeat("z", 53))
	case 6:
		r.Args = append(r.Args, "file "+r.Outputs[0].Name+"/"+part(numbered(1))+" x")
	case 7:
		r.Args = append(r.Args, "dir tmp", "file tmp/x y", "drop tmp/y")
	}
}

// want is wants by chance.
func (c *chance) wants() []api.Want {
	var out []api.Want
	for range 1 + c.source.IntN(3) {
		l := pick(c.source, c.recipes...)
		w := api.Want{Recipe: l}
		if c.source.IntN(3) == 0 {
			w.Outputs = append(some(c.source, c.outputsOf(l), 2), some(c.source, c.outputsOf(l), 2)...)
		}
		if c.wrongly() {
			w = pick(c.source, api.Want{Recipe: c.sources[0]}, api.Want{Recipe: api.Label{Name: "no.recipe"}}, api.Want{Recipe: l, Outputs: []string{"zzz"}})
		}
		out = append(out, w)
	}
	return out
}

func TestWorlds(t *testing.T) {
	source := sourceOf(3)
	seen := map[string]int{}
	for i := range 300 {
		c := chanceBy(t, source, i%3)
		if len(c.recipes) == 0 {
			continue
		}
		b := bothOn(t, c.v.Disk(), 1<<24)
		for range 1 + source.IntN(4) {
			asked := c.wants()
			b.plan(asked)
			for _, l := range c.recipes {
				b.resolve(l)
			}
			told := b.make(asked, 1+source.IntN(16))
			seen[strings.Fields(told)[0]]++
			if !strings.Contains(told, "ran {}") {
				seen["ran"]++
			}
			for _, l := range c.recipes {
				b.resolve(l)
			}
			if source.IntN(3) == 0 {
				made := b.s.List()
				b.apply(api.Step{Kind: api.StepDrop, Label: made[source.IntN(len(made))]})
			}
		}
	}
	for _, e := range []api.Errno{api.OK, api.ErrStep, api.ErrMade, api.ErrNone, api.ErrArg, api.ErrRecipe, api.ErrInput, api.ErrOutput, api.ErrBuilder} {
		if seen[fmt.Sprint(e)] == 0 {
			t.Errorf("no Make answers %d", e)
		}
	}
	if seen["0"] < 100 || seen["ran"] < 100 {
		t.Errorf("only %d go well, %d run", seen["0"], seen["ran"])
	}
}

// digits is a text of base 32 by chance.
func digits(source *rand.Rand, n int) string {
	b := make([]byte, 200)
	for i := range b {
		b[i] = byte(source.Uint32())
	}
	return digest.Base32(b)[:n]
}
