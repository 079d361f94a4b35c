package forge

import (
	"fmt"
	"math/rand/v2"
	"slices"
	"strings"
	"testing"

	"graft/api"
	"graft/ark"
	"graft/digest"
	"graft/journal"
	"graft/label"
	"graft/modulo"
	"graft/recipe"
	"graft/shelf"
)

// What the tests' recipes and shelves are made of, and what they tell.

func sourceOf(seed uint64) *rand.Rand { return rand.New(rand.NewPCG(seed, 14)) }

func textOf(l api.Label) string {
	s, _ := label.Print(l)
	return s
}

// part is a label's hash part.
func part(l api.Label) string { return digest.Base32(l.Hash[:]) }

// numbered is a label that is unlike all others of this kind, and in no order.
func numbered(i int) api.Label {
	return api.Label{Hash: digest.Fold(digest.Of([]byte(fmt.Sprint(i)))), Name: fmt.Sprint("n", i)}
}

func arkFor(n api.Node) []byte {
	b, e := ark.Print(n)
	if e != api.OK {
		panic("no archive")
	}
	return b
}

func file(data string) api.Node { return api.Node{Kind: api.KindFile, Data: []byte(data)} }

func program(data string) api.Node {
	return api.Node{Kind: api.KindFile, Exec: true, Data: []byte(data)}
}

func link(to string) api.Node { return api.Node{Kind: api.KindLink, Link: to} }

func entry(name string, n api.Node) api.Entry { return api.Entry{Name: name, Node: n} }

func dir(list ...api.Entry) api.Node { return api.Node{Kind: api.KindDir, List: list} }

// guest is an object that came from outside.
func guest(l api.Label, n api.Node, refs ...api.Label) api.Object {
	return api.Object{Label: l, Refs: label.Sort(refs), Ark: arkFor(n)}
}

// tree is an own object without references.
func tree(name string, n api.Node) api.Object {
	data := arkFor(n)
	l, e := label.Source(name, digest.Of(data), nil, false)
	if e != api.OK {
		panic("no label")
	}
	return api.Object{Label: l, Ark: data, Ca: api.BySource}
}

// plainly is a recipe for Run, with one output.
func plainly(args ...string) api.Recipe {
	return api.Recipe{Outputs: []api.Output{{Name: "out"}}, System: "any", Builder: "builtin:make", Args: args,
		Env: []api.Pair{{Key: "e"}, {Key: "out", Value: "L"}, {Key: "v", Value: "1 2"}}}
}

// recipeOf is a recipe of mode 0 or 2 with these outputs, none of which has a label yet.
func recipeOf(mode int, outputs string, args ...string) api.Recipe {
	r := api.Recipe{System: "any", Builder: "builtin:make", Args: args}
	for _, name := range strings.Fields(outputs) {
		o := api.Output{Name: name}
		if mode == 2 {
			o.Algo = "r:sha256"
		}
		r.Outputs, r.Env = append(r.Outputs, o), append(r.Env, api.Pair{Key: name})
	}
	return r
}

// float is a floating recipe with the output out.
func float(args ...string) api.Recipe { return recipeOf(2, "out", args...) }

// flat is a recipe that is to make one file with these bytes.
func flat(data string, args ...string) api.Recipe {
	r := recipeOf(0, "out", args...)
	sum := digest.Of([]byte(data))
	r.Outputs[0].Algo, r.Outputs[0].Sum = "sha256", digest.Hex(sum[:])
	return r
}

// deep is a recipe that is to make this tree.
func deep(n api.Node, args ...string) api.Recipe {
	r := recipeOf(0, "out", args...)
	sum := digest.Of(arkFor(n))
	r.Outputs[0].Algo, r.Outputs[0].Sum = "r:sha256", digest.Hex(sum[:])
	return r
}

// asking is a recipe with one more input.
func asking(r api.Recipe, of api.Label, outputs string) api.Recipe {
	r.Inputs = append(slices.Clone(r.Inputs), api.Input{Recipe: textOf(of), Outputs: strings.Fields(outputs)})
	slices.SortFunc(r.Inputs, func(a, b api.Input) int { return strings.Compare(a.Recipe, b.Recipe) })
	return r
}

// from is a recipe with more sources.
func from(r api.Recipe, sources ...api.Label) api.Recipe {
	r.Sources = slices.Clone(r.Sources)
	for _, l := range sources {
		r.Sources = append(r.Sources, textOf(l))
	}
	slices.Sort(r.Sources)
	r.Sources = slices.Compact(r.Sources)
	return r
}

// given is a recipe with one more in its environment.
func given(r api.Recipe, key, value string) api.Recipe {
	r.Env = append(slices.Clone(r.Env), api.Pair{Key: key, Value: value})
	slices.SortFunc(r.Env, func(a, b api.Pair) int { return strings.Compare(a.Key, b.Key) })
	return r
}

// stand is what stands for a recipe's output.
func stand(of api.Label, output string) string { return modulo.Stand(textOf(of), output) }

// world is a shelf, its device, and the sums of the recipes that were laid on it.
type world struct {
	t     *testing.T
	s     *shelf.Shelf
	v     *journal.Device
	known []api.Known
}

func mustOpen(t *testing.T, v *journal.Device, limit int) *shelf.Shelf {
	t.Helper()
	s, e, a, b := shelf.Open(v, limit)
	if s == nil || e != api.OK {
		t.Fatalf("P12.3: Open = %v, %d, %d, %d", s != nil, e, a, b)
	}
	return s
}

func newWorld(t *testing.T, objects ...api.Object) *world {
	t.Helper()
	return worldOf(t, 1<<24, objects...)
}

func worldOf(t *testing.T, limit int, objects ...api.Object) *world {
	t.Helper()
	v := journal.NewDevice(api.Disk{})
	w := &world{t: t, s: mustOpen(t, v, limit), v: v}
	if len(objects) > 0 {
		w.put(objects...)
	}
	return w
}

func (w *world) put(objects ...api.Object) {
	w.t.Helper()
	var steps []api.Step
	for _, o := range objects {
		steps = append(steps, api.Step{Kind: api.StepPut, Object: o})
	}
	if e, n := w.s.Apply(steps); e != api.OK {
		w.t.Fatalf("P12.1: Apply = %d, %d", e, n)
	}
}

func (w *world) drop(l api.Label) {
	w.t.Helper()
	if e, n := w.s.Apply([]api.Step{{Kind: api.StepDrop, Label: l}}); e != api.OK {
		w.t.Fatalf("P12.1: drop = %d, %d", e, n)
	}
}

// lay lays a recipe on the shelf, with its outputs' labels: its own label.
func (w *world) lay(name string, r api.Recipe) api.Label {
	w.t.Helper()
	f, e, n := modulo.Fill(name, r, w.known)
	if e != api.OK {
		w.t.Fatalf("P7.2: Fill of %s = %d, %d", name, e, n)
	}
	return w.layAs(name, f)
}

// layAs lays a recipe on the shelf as it is.
func (w *world) layAs(name string, r api.Recipe) api.Label {
	w.t.Helper()
	o := recipeObject(w.t, name, r)
	w.put(o)
	if sum, e, _ := modulo.Hash(name, r, w.known); e == api.OK {
		w.known = append(w.known, api.Known{Recipe: textOf(o.Label), Sum: sum})
	}
	return o.Label
}

// recipeObject is a recipe as it lies on a shelf.
func recipeObject(t *testing.T, name string, r api.Recipe) api.Object {
	t.Helper()
	l, e := recipe.Call(name, r)
	if e != api.OK {
		t.Fatalf("P6.9: Call of %s = %d", name, e)
	}
	text, _, _ := recipe.Print(r)
	refs, _ := recipe.Refs(r)
	return api.Object{Label: l, Refs: refs, Ark: arkFor(file(text)), Ca: api.ByText}
}

// sum is a recipe's.
func (w *world) sum(l api.Label) api.Sum {
	w.t.Helper()
	for _, k := range w.known {
		if k.Recipe == textOf(l) {
			return k.Sum
		}
	}
	w.t.Fatalf("no sum of %s", textOf(l))
	return api.Sum{}
}

// key is where what a recipe's output came to is kept.
func (w *world) key(l api.Label, output string) string {
	w.t.Helper()
	return modulo.Key(w.sum(l), output)
}

func (w *world) get(l api.Label) api.Object {
	w.t.Helper()
	o, e := w.s.Get(l)
	if e != api.OK {
		w.t.Fatalf("%s is not on the shelf", textOf(l))
	}
	return o
}

// outLabel is the label that a recipe of mode 0 or 1 says for an output.
func (w *world) outLabel(l api.Label, output string) api.Label {
	w.t.Helper()
	r, e, _ := recipe.Read(w.bytes(l))
	if e != api.OK {
		w.t.Fatalf("P6.1: %d", e)
	}
	for _, o := range r.Outputs {
		if o.Name == output {
			return parsed(o.Label)
		}
	}
	w.t.Fatalf("no output %s", output)
	return api.Label{}
}

// bytes is those of an object that is one file.
func (w *world) bytes(l api.Label) string {
	w.t.Helper()
	n := w.tree(l)
	if n.Kind != api.KindFile {
		w.t.Fatalf("%s is no file", textOf(l))
	}
	return string(n.Data)
}

func (w *world) tree(l api.Label) api.Node {
	w.t.Helper()
	n, e, _ := ark.Parse(w.get(l).Ark)
	if e != api.OK {
		w.t.Fatalf("%s has no archive", textOf(l))
	}
	return n
}

func want(l api.Label, outputs ...string) api.Want { return api.Want{Recipe: l, Outputs: outputs} }

func wants(l ...api.Label) []api.Want {
	var out []api.Want
	for _, x := range l {
		out = append(out, want(x))
	}
	return out
}

// make makes, and holds that it goes well: what the wants came to.
func (w *world) make(asked ...api.Want) []api.Label {
	w.t.Helper()
	f, e := Make(w.s, asked, 3)
	if e != api.OK {
		w.t.Fatalf("P14.6: Make = %d, %s", e, showForging(f))
	}
	var out []api.Label
	for _, m := range f.Mades {
		out = append(out, m.Label)
	}
	return out
}

// refuse holds that Make answers an error, and changes nothing.
func (w *world) refuse(what string, e api.Errno, at api.Label, step int, ran []api.Label, asked ...api.Want) {
	w.t.Helper()
	was := markOf(w)
	f, got := Make(w.s, asked, 2)
	if got != e || f.At != at || f.Step != step || !slices.Equal(f.Ran, ran) || len(f.Mades) > 0 {
		w.t.Errorf("%s: Make = %d, %s, want %d at %s, step %d, ran %s", what, got, showForging(f), e, showLabel(at), step, showLabels(ran))
	}
	unchanged(w.t, what, w, was)
}

func showLabel(l api.Label) string { return fmt.Sprintf("%.6s-%q", part(l), l.Name) }

func showLabels(l []api.Label) string {
	var out []string
	for _, x := range l {
		out = append(out, showLabel(x))
	}
	return "{" + strings.Join(out, " ") + "}"
}

func showForging(f api.Forging) string {
	var mades []string
	for _, m := range f.Mades {
		mades = append(mades, m.Key+" "+textOf(m.Label))
	}
	return fmt.Sprintf("mades %q, ran %s, at %s, step %d", mades, showLabels(f.Ran), showLabel(f.At), f.Step)
}

// tellShelf is all that a shelf holds, line by line.
func tellShelf(s *shelf.Shelf) string {
	var b strings.Builder
	for _, l := range s.List() {
		o, _ := s.Get(l)
		fmt.Fprintf(&b, "object %s %s %q %q %d\n", textOf(l), showLabels(o.Refs), o.Ark, o.Maker, o.Ca)
	}
	for _, m := range s.Mades() {
		fmt.Fprintf(&b, "made %s %s\n", m.Key, textOf(m.Label))
	}
	fmt.Fprintln(&b, s.Sames(), s.Keys())
	return b.String()
}

func filesOf(v *journal.Device) [2]string {
	d := v.Disk()
	return [2]string{string(d.Files[0]), string(d.Files[1])}
}

// mark is how a shelf and its device stand: all of it, to the last operation.
type mark struct {
	told  string
	files [2]string
	count int
	last  int
	stat  api.Stat
}

func markOf(w *world) mark {
	return mark{tellShelf(w.s), filesOf(w.v), w.v.Count(), w.s.Last(), w.s.Stat()}
}

// unchanged holds that nothing was done.
func unchanged(t *testing.T, what string, w *world, was mark) {
	t.Helper()
	if now := markOf(w); now != was {
		t.Errorf("%s: something was done: batch %d behind %d, %d operations behind %d\n%s", what, now.last, was.last, now.count, was.count, firstUnlike(now.told, was.told))
	}
}

// firstUnlike is the first line in which two texts differ.
func firstUnlike(got, want string) string {
	a, b := strings.Split(got, "\n"), strings.Split(want, "\n")
	for i := range min(len(a), len(b)) {
		if a[i] != b[i] {
			return fmt.Sprintf("%.600s\nwant\n%.600s", a[i], b[i])
		}
	}
	return fmt.Sprintf("%d lines, want %d", len(a), len(b))
}

// again is a world over another one's bytes, on a device of its own.
func (w *world) again(limit int) *world {
	w.t.Helper()
	v := journal.NewDevice(w.v.Disk())
	return &world{t: w.t, s: mustOpen(w.t, v, limit), v: v, known: slices.Clone(w.known)}
}
