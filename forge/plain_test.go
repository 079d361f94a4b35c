package forge

import (
	"bytes"
	"fmt"
	"slices"
	"strings"
	"testing"

	"graft/api"
	"graft/ark"
	"graft/journal"
	"graft/label"
	"graft/modulo"
	"graft/recipe"
	"graft/shelf"
)

// A plain reading of 14.2 and 14.3, with lists that are gone through from end to end, that the package is held against. It plays
// on a shelf of its own, one recipe behind the other.

// plainRecipe is a recipe of the shelf.
type plainRecipe struct {
	l    api.Label
	name string
	r    api.Recipe
	sum  api.Sum
}

func plainRead(s *shelf.Shelf, l api.Label) (plainRecipe, api.Errno) {
	o, e := s.Get(l)
	if e != api.OK {
		return plainRecipe{}, api.ErrNone
	}
	n, _, _ := ark.Parse(o.Ark)
	if n.Kind != api.KindFile || n.Exec || !strings.HasSuffix(l.Name, ".recipe") {
		return plainRecipe{}, api.ErrRecipe
	}
	name := l.Name[:len(l.Name)-7]
	r, e, _ := recipe.Read(string(n.Data))
	if right, _ := label.Check(name); e != api.OK || right != api.OK {
		return plainRecipe{}, api.ErrRecipe
	}
	if called, e := recipe.Call(name, r); e != api.OK || called != l {
		return plainRecipe{}, api.ErrRecipe
	}
	return plainRecipe{l: l, name: name, r: r}, api.OK
}

// plainSet is R: recipes in the order of their labels.
type plainSet []plainRecipe

func (set plainSet) at(l api.Label) *plainRecipe {
	for i := range set {
		if set[i].l == l {
			return &set[i]
		}
	}
	return nil
}

// inputs is the labels of a recipe's inputs.
func (p plainRecipe) inputs() []api.Label {
	var out []api.Label
	for _, in := range p.r.Inputs {
		l, _, _ := label.Parse(in.Recipe)
		out = append(out, l)
	}
	return out
}

func (p plainRecipe) has(output string) bool {
	return slices.ContainsFunc(p.r.Outputs, func(o api.Output) bool { return o.Name == output })
}

// plainOrder is recipes in graph.Order's order: always the least of those all of whose inputs among them stand.
func plainOrder(set plainSet) []api.Label {
	var out []api.Label
	for len(out) < len(set) {
		for _, p := range set {
			if slices.Contains(out, p.l) || slices.ContainsFunc(p.inputs(), func(l api.Label) bool { return set.at(l) != nil && !slices.Contains(out, l) }) {
				continue
			}
			out = append(out, p.l)
			break
		}
	}
	return out
}

// plainAsked goes by P14.3 (but for loops, which no recipes make whose labels are their own).
func plainAsked(s *shelf.Shelf, asked []api.Want) (plainSet, api.Errno, api.Label) {
	var labels []api.Label
	for _, w := range asked {
		labels = append(labels, w.Recipe)
	}
	for i := 0; i < len(labels); i++ {
		if p, e := plainRead(s, labels[i]); e == api.OK {
			for _, l := range p.inputs() {
				if !slices.Contains(labels, l) {
					labels = append(labels, l)
				}
			}
		}
	}
	var set plainSet
	for _, l := range label.Sort(labels) {
		p, e := plainRead(s, l)
		if e != api.OK {
			return nil, e, l
		}
		set = append(set, p)
	}
	for _, p := range set {
		var outputs []string
		for _, w := range asked {
			if w.Recipe == p.l {
				outputs = append(outputs, w.Outputs...)
			}
		}
		for _, q := range set {
			for _, in := range q.r.Inputs {
				if in.Recipe == textOf(p.l) {
					outputs = append(outputs, in.Outputs...)
				}
			}
		}
		for _, output := range outputs {
			if !p.has(output) {
				return nil, api.ErrArg, p.l
			}
		}
	}
	for _, l := range plainOrder(set) {
		p := set.at(l)
		if !plainStands(p.r) {
			return nil, api.ErrInput, l
		}
		var known []api.Known
		for i, in := range p.inputs() {
			known = append(known, api.Known{Recipe: p.r.Inputs[i].Recipe, Sum: set.at(in).sum})
		}
		if e, _ := modulo.Fits(p.name, p.r, known); e != api.OK {
			return nil, api.ErrOutput, l
		}
		p.sum, _, _ = modulo.Hash(p.name, p.r, known)
	}
	return set, api.OK, api.Label{}
}

func plainStands(r api.Recipe) bool {
	texts := slices.Clone(r.Args)
	for _, p := range r.Env {
		texts = append(texts, p.Value)
	}
	for _, text := range texts {
		for at := range text {
			if text[at] != '/' || len(text) < at+53 || strings.Trim(text[at+1:at+53], "0123456789abcdfghijklmnpqrsvwxyz") != "" {
				continue
			}
			stands := false
			for _, in := range r.Inputs {
				for _, output := range in.Outputs {
					stands = stands || modulo.Stand(in.Recipe, output) == text[at:at+53]
				}
			}
			if !stands {
				return false
			}
		}
	}
	return true
}

// plainMade is the label that an output is, if it is made.
func plainMade(s *shelf.Shelf, p plainRecipe, output string) (api.Label, bool) {
	for _, o := range p.r.Outputs {
		if o.Name != output {
			continue
		}
		if recipe.Mode(p.r) == 2 {
			l, e := s.Made(modulo.Key(p.sum, output))
			return l, e == api.OK
		}
		l, _, _ := label.Parse(o.Label)
		return l, s.Has(l)
	}
	return api.Label{}, false
}

// plainWanted is the outputs that a want wants.
func plainWanted(p plainRecipe, w api.Want) []string {
	if len(w.Outputs) > 0 {
		return w.Outputs
	}
	var out []string
	for _, o := range p.r.Outputs {
		out = append(out, o.Name)
	}
	return out
}

// plainPlan goes by P14.4; with Check's error also its number.
func plainPlan(s *shelf.Shelf, asked []api.Want) ([]api.Label, api.Errno, api.Label, int) {
	set, e, at := plainAsked(s, asked)
	if e != api.OK {
		return nil, e, at, 0
	}
	lacks := func(p plainRecipe, outputs []string) bool {
		return slices.ContainsFunc(outputs, func(o string) bool { _, made := plainMade(s, p, o); return !made })
	}
	var todo plainSet
	for grown := true; grown; {
		grown = false
		for _, p := range set {
			need := false
			for _, w := range asked {
				need = need || w.Recipe == p.l && lacks(p, plainWanted(p, w))
			}
			for _, q := range todo {
				for _, in := range q.r.Inputs {
					need = need || in.Recipe == textOf(p.l) && lacks(p, in.Outputs)
				}
			}
			if need && todo.at(p.l) == nil {
				todo, grown = append(todo, p), true
			}
		}
	}
	slices.SortFunc(todo, func(a, b plainRecipe) int { return strings.Compare(textOf(a.l), textOf(b.l)) })
	plan := plainOrder(todo)
	for _, l := range plan {
		if e, n := plainCheck(set.at(l).r); e == api.ErrStep {
			return nil, e, l, n
		} else if e != api.OK {
			return nil, e, l, 0
		}
	}
	return plan, api.OK, api.Label{}, 0
}

// plainResolve goes by P14.5.
func plainResolve(s *shelf.Shelf, l api.Label) (api.Recipe, api.Errno, api.Label) {
	set, e, at := plainAsked(s, []api.Want{{Recipe: l}})
	if e != api.OK {
		return api.Recipe{}, e, at
	}
	r := set.at(l).r
	var from, to []string
	for i, in := range set.at(l).inputs() {
		for _, output := range r.Inputs[i].Outputs {
			is, made := plainMade(s, *set.at(in), output)
			if !made {
				return api.Recipe{}, api.ErrNone, in
			}
			from, to = append(from, modulo.Stand(textOf(in), output)), append(to, textOf(is))
		}
	}
	r, e = recipe.Swap(r, from, to)
	if e != api.OK {
		return api.Recipe{}, api.ErrClash, l
	}
	r.Inputs = nil
	for _, text := range to {
		if !slices.Contains(r.Sources, text) {
			r.Sources = append(r.Sources, text)
		}
	}
	slices.Sort(r.Sources)
	for _, text := range r.Sources {
		if x, _, _ := label.Parse(text); !s.Has(x) {
			return api.Recipe{}, api.ErrNone, x
		}
	}
	return r, api.OK, api.Label{}
}

// plainMake goes by P14.6.
func plainMake(s *shelf.Shelf, asked []api.Want, workers int) (api.Forging, api.Errno) {
	if workers < 1 || workers > 16 {
		return api.Forging{}, api.ErrArg
	}
	plan, e, at, step := plainPlan(s, asked)
	if e != api.OK {
		return api.Forging{At: at, Step: step}, e
	}
	set, _, _ := plainAsked(s, asked)
	var f api.Forging
	for _, l := range plan {
		ran, e, at, step := plainDo(s, *set.at(l))
		if ran {
			f.Ran = append(f.Ran, l)
		}
		if e != api.OK {
			f.At, f.Step = at, step
			return f, e
		}
	}
	for _, w := range asked {
		p := *set.at(w.Recipe)
		for _, output := range plainWanted(p, w) {
			l, _ := plainMade(s, p, output)
			f.Mades = append(f.Mades, api.Made{Key: modulo.Key(p.sum, output), Label: l})
		}
	}
	return f, api.OK
}

func putStep(o api.Object) api.Step { return api.Step{Kind: api.StepPut, Object: o} }

func madeOf(key string, l api.Label) api.Step {
	return api.Step{Kind: api.StepMade, Made: api.Made{Key: key, Label: l}}
}

// plainDo goes by P14.7: whether all steps were done; the error, its label and the step.
func plainDo(s *shelf.Shelf, p plainRecipe) (bool, api.Errno, api.Label, int) {
	all := true
	for _, o := range p.r.Outputs {
		_, made := plainMade(s, p, o.Name)
		all = all && made
	}
	if all { // 1
		return false, api.OK, api.Label{}, 0
	}
	r, e, at := plainResolve(s, p.l)
	if e != api.OK { // 2
		return false, e, at, 0
	}
	mode := recipe.Mode(p.r)
	bare, e, _ := modulo.Hash(p.name, recipe.Blank(r), nil)
	isBare := mode == 2 && e == api.OK
	if isBare { // 3
		var steps []api.Step
		for _, o := range r.Outputs {
			if l, e := s.Made(modulo.Key(bare, o.Name)); e == api.OK {
				steps = append(steps, madeOf(modulo.Key(p.sum, o.Name), l))
			}
		}
		if len(steps) == len(r.Outputs) {
			if e, _ := s.Apply(steps); e != api.OK {
				return false, e, p.l, 0
			}
			return false, api.OK, api.Label{}, 0
		}
	}
	var sources []api.Label // 4
	for _, text := range r.Sources {
		l, _, _ := label.Parse(text)
		sources = append(sources, l)
	}
	closure, _, _ := s.Closure(sources)
	var inputs []api.Object
	for _, l := range closure {
		o, _ := s.Get(l)
		inputs = append(inputs, o)
	}
	var labels []api.Label
	for _, o := range r.Outputs {
		l, _, _ := label.Parse(o.Label)
		if mode == 2 {
			l = plainScratch(p, o.Name, bare, isBare)
		}
		labels = append(labels, l)
	}
	if mode == 2 {
		var texts []string
		for _, l := range labels {
			texts = append(texts, textOf(l))
		}
		r, _ = recipe.Put(r, texts)
	}
	trees, e, step := plainRun(r, inputs)
	if e != api.OK {
		return e == api.ErrMade, e, p.l, step
	}
	var objects []api.Object // 5
	ok := true
	switch mode {
	case 0:
		objects, ok = plainGuests(p, closure, labels, trees)
	case 1:
		objects, ok = plainFixed(r.Outputs[0], closure, labels, trees[0])
	case 2:
		objects, ok = plainOwn(inputs, labels, trees)
	}
	if !ok {
		return true, api.ErrMade, p.l, len(r.Args)
	}
	var steps []api.Step // 6
	for _, o := range objects {
		if mode != 0 || !s.Has(o.Label) {
			steps = append(steps, putStep(o))
		}
	}
	if mode == 2 {
		for i, o := range r.Outputs {
			steps = append(steps, madeOf(modulo.Key(p.sum, o.Name), objects[i].Label))
			if isBare && bare != p.sum {
				steps = append(steps, madeOf(modulo.Key(bare, o.Name), objects[i].Label))
			}
		}
	}
	if e, _ := s.Apply(steps); e != api.OK {
		return true, e, p.l, 0
	}
	return true, api.OK, api.Label{}, 0
}

// plainScratch is the label under which a floating output is made.
func plainScratch(p plainRecipe, output string, bare api.Sum, isBare bool) api.Label {
	sum := p.sum
	if isBare {
		sum = bare
	}
	l := api.Label{Hash: modulo.Scratch(sum, output), Name: p.name}
	if output != "out" {
		l.Name = p.name + "-" + output
	}
	return l
}

// plainPlaces is where an archive mentions a label.
func plainPlaces(data []byte, l api.Label) []int {
	var out []int
	for at := 0; ; at++ {
		i := bytes.Index(data[at:], []byte(part(l)))
		if i < 0 {
			return out
		}
		at += i
		out = append(out, at)
	}
}

// plainMentioned is which labels an archive mentions.
func plainMentioned(data []byte, labels []api.Label) []api.Label {
	var out []api.Label
	for _, l := range labels {
		if len(plainPlaces(data, l)) > 0 {
			out = append(out, l)
		}
	}
	return label.Sort(out)
}

func plainGuests(p plainRecipe, closure, labels []api.Label, trees []api.Node) ([]api.Object, bool) {
	var out []api.Object
	for i, n := range trees {
		refs := plainMentioned(arkFor(n), slices.Concat(closure, labels))
		if len(refs) > 256 {
			return nil, false
		}
		out = append(out, api.Object{Label: labels[i], Refs: refs, Ark: arkFor(n), Maker: textOf(p.l), Ca: api.Guest})
	}
	return out, true
}

func plainFixed(o api.Output, closure, labels []api.Label, n api.Node) ([]api.Object, bool) {
	data, ca := arkFor(n), api.BySource
	if len(plainMentioned(data, slices.Concat(closure, labels))) > 0 {
		return nil, false
	}
	if o.Algo == "sha256" {
		if n.Kind != api.KindFile || n.Exec {
			return nil, false
		}
		data, ca = n.Data, api.ByFlat
	}
	return []api.Object{{Label: labels[0], Ark: arkFor(n), Ca: ca}}, hexOf(data) == o.Sum
}

// plainOwn makes own objects of floating outputs.
func plainOwn(inputs []api.Object, labels []api.Label, trees []api.Node) ([]api.Object, bool) {
	candidates := slices.Clone(labels)
	for _, o := range inputs {
		candidates = append(candidates, o.Label)
	}
	candidates = label.Sort(candidates)
	for i, l := range candidates {
		if i > 0 && candidates[i-1].Hash == l.Hash {
			return nil, false
		}
	}
	var refs [][]api.Label
	for i, n := range trees {
		data := arkFor(n)
		refs = append(refs, plainMentioned(data, candidates))
		var places []int
		for _, l := range refs[i] {
			places = append(places, plainPlaces(data, l)...)
			for _, x := range ark.Flat(n) {
				if strings.Contains(x.Way[strings.LastIndex(x.Way, "/")+1:], part(l)) {
					return nil, false
				}
			}
			for _, o := range inputs {
				if o.Label == l && o.Ca == api.Guest {
					return nil, false
				}
			}
		}
		slices.Sort(places)
		for k := range places {
			if k > 0 && places[k]-places[k-1] < 32 {
				return nil, false
			}
		}
		if e, _ := label.Check(labels[i].Name); e != api.OK || len(refs[i]) > 256 {
			return nil, false
		}
	}
	named, ok := plainNames(labels, trees, refs)
	if !ok {
		return nil, false
	}
	return plainRenamed(candidates, labels, named, trees, refs)
}

// plainNames is the outputs' own labels, by their scratch labels.
func plainNames(labels []api.Label, trees []api.Node, refs [][]api.Label) (map[api.Label]api.Label, bool) {
	reach := make([][]bool, len(labels))
	for i := range labels {
		for k, l := range labels {
			reach[i] = append(reach[i], i == k || slices.Contains(refs[i], l))
		}
	}
	for m := range labels {
		for i := range labels {
			for k := range labels {
				reach[i][k] = reach[i][k] || reach[i][m] && reach[m][k]
			}
		}
	}
	named := map[api.Label]api.Label{}
	for len(named) < len(labels) {
		for i := range labels {
			var group []int
			ready := named[labels[i]] == api.Label{}
			for k := range labels {
				if reach[i][k] && reach[k][i] {
					group = append(group, k)
				} else if reach[i][k] && (named[labels[k]] == api.Label{}) {
					ready = false
				}
			}
			if !ready {
				continue
			}
			if len(group) > 64 {
				return nil, false
			}
			for k, l := range plainGroup(group, labels, trees, refs, named) {
				named[k] = l
			}
		}
	}
	return named, true
}

// plainGroup names one group: its members go in backward, with zeros where they mention one another.
func plainGroup(group []int, labels []api.Label, trees []api.Node, refs [][]api.Label, named map[api.Label]api.Label) map[api.Label]api.Label {
	slices.Reverse(group)
	var members []api.Member
	for _, i := range group {
		m := api.Member{Name: labels[i].Name, Ark: arkFor(trees[i])}
		for _, l := range refs[i] {
			k := slices.Index(labels, l)
			for _, at := range plainPlaces(arkFor(trees[i]), l) {
				if which := slices.Index(group, k); k >= 0 && which >= 0 {
					m.Hits = append(m.Hits, api.Hit{At: at, Which: which})
					copy(m.Ark[at:], make([]byte, 32))
				} else if k >= 0 {
					copy(m.Ark[at:], part(named[l]))
				}
			}
			if k < 0 {
				m.Refs = append(m.Refs, l)
			} else if !slices.Contains(group, k) {
				m.Refs = append(m.Refs, named[l])
			}
		}
		m.Refs = label.Sort(m.Refs)
		slices.SortFunc(m.Hits, func(a, b api.Hit) int { return a.At - b.At })
		members = append(members, m)
	}
	// Masked archives may be none (a link's target has no zeros): what stands there has no part in the naming.
	for i := range members {
		for _, h := range members[i].Hits {
			copy(members[i].Ark[h.At:], strings.Repeat("0", 32))
		}
	}
	n, e, at := modulo.Group(members)
	if e != api.OK {
		panic(fmt.Sprint("P7.6: ", e, at))
	}
	out := map[api.Label]api.Label{}
	for m, i := range group {
		out[labels[i]] = n.Labels[m]
	}
	return out
}

// plainRenamed is the objects with their own labels, references and archives.
func plainRenamed(candidates, labels []api.Label, named map[api.Label]api.Label, trees []api.Node, refs [][]api.Label) ([]api.Object, bool) {
	var out []api.Object
	for i, n := range trees {
		old := arkFor(n)
		data := slices.Clone(old)
		var places []int
		var to []api.Label
		for _, l := range refs[i] {
			new, is := named[l]
			if !is {
				new = l
			}
			to = append(to, new)
			for _, at := range plainPlaces(old, l) {
				copy(data[at:], part(new))
				places = append(places, at)
			}
		}
		look := slices.Clone(candidates)
		for _, l := range labels {
			look = append(look, named[l])
		}
		for _, l := range look {
			for _, at := range plainPlaces(data, l) {
				if !slices.Contains(places, at) {
					return nil, false
				}
			}
		}
		out = append(out, api.Object{Label: named[labels[i]], Refs: label.Sort(to), Ark: data, Ca: api.ByGroup})
	}
	return out, true
}

// both is two shelves on devices of their own: one for the package, one for the plain reading.
type both struct {
	t    *testing.T
	s, p *shelf.Shelf
	v, w *journal.Device
}

// bothOn is both over a disk's bytes.
func bothOn(t *testing.T, d api.Disk, limit int) *both {
	t.Helper()
	b := &both{t: t, v: journal.NewDevice(d), w: journal.NewDevice(d)}
	b.s, b.p = mustOpen(t, b.v, limit), mustOpen(t, b.w, limit)
	return b
}

// ask holds that a call and its plain reading answer the same, and leave shelves and devices that are the same.
func (b *both) ask(what string, ask, plain func(s *shelf.Shelf) string) string {
	b.t.Helper()
	got, want := ask(b.s), plain(b.p)
	if got != want {
		b.t.Fatalf("%s: %s\nwant %s\n%.3000s", what, got, want, tellShelf(b.p))
	}
	if filesOf(b.v) != filesOf(b.w) || b.v.Count() != b.w.Count() {
		b.t.Fatalf("%s: %d operations, want %d\n%s", what, b.v.Count(), b.w.Count(), firstUnlike(tellShelf(b.s), tellShelf(b.p)))
	}
	return got
}

func toldMake(f api.Forging, e api.Errno) string { return fmt.Sprint(e, " ", showForging(f)) }

func (b *both) make(asked []api.Want, workers int) string {
	b.t.Helper()
	return b.ask("P14.6", func(s *shelf.Shelf) string { return toldMake(Make(s, asked, workers)) }, func(s *shelf.Shelf) string { return toldMake(plainMake(s, asked, workers)) })
}

func toldPlan(l []api.Label, e api.Errno, at api.Label) string {
	return fmt.Sprint(showLabels(l), e, showLabel(at))
}

func (b *both) plan(asked []api.Want) string {
	b.t.Helper()
	return b.ask("P14.4", func(s *shelf.Shelf) string { return toldPlan(Plan(s, asked)) }, func(s *shelf.Shelf) string {
		l, e, at, _ := plainPlan(s, asked)
		return toldPlan(l, e, at)
	})
}

func toldRecipe(r api.Recipe, e api.Errno, at api.Label) string {
	return fmt.Sprintf("%q %d %s", fmt.Sprint(r), e, showLabel(at))
}

func (b *both) resolve(l api.Label) string {
	b.t.Helper()
	return b.ask("P14.5", func(s *shelf.Shelf) string { return toldRecipe(Resolve(s, l)) }, func(s *shelf.Shelf) string { return toldRecipe(plainResolve(s, l)) })
}

func (b *both) apply(steps ...api.Step) api.Errno {
	b.t.Helper()
	e, _ := b.s.Apply(steps)
	b.p.Apply(steps)
	return e
}
