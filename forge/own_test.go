package forge

import (
	"fmt"
	"slices"
	"strings"
	"testing"

	"graft/api"
	"graft/ark"
	"graft/digest"
	"graft/label"
	"graft/modulo"
	"graft/recipe"
	"graft/shelf"
)

// wrongly is why an object on a shelf is not what "Own names" (DOC.md) says of it; "" if it is, or is a guest.
func wrongly(s *shelf.Shelf, l api.Label) string {
	o, _ := s.Get(l)
	if o.Ca == api.Guest {
		return ""
	}
	n, _, _ := ark.Parse(o.Ark)
	for _, ref := range o.Refs {
		if x, _ := s.Get(ref); x.Ca == api.Guest {
			return "refers to a guest"
		}
	}
	var named api.Label
	switch o.Ca {
	case api.ByText:
		named, _ = label.Text(l.Name, n.Data, o.Refs)
	case api.BySource:
		named, _ = label.Source(l.Name, digest.Of(o.Ark), nil, false)
	case api.ByFlat:
		named, _ = label.Fixed(l.Name, digest.Of(n.Data), true)
	case api.ByGroup:
		return wronglyGrouped(s, o)
	}
	if named != l || o.Ca != api.ByText && len(o.Refs) > 0 || o.Ca != api.BySource && (n.Kind != api.KindFile || n.Exec) {
		return "is called " + textOf(named)
	}
	return ""
}

// wronglyGrouped goes by the object's group in the shelf's graph.
func wronglyGrouped(s *shelf.Shelf, o api.Object) string {
	there, _, _ := s.Closure([]api.Label{o.Label})
	var group []api.Label
	for _, x := range there {
		if back, _, _ := s.Closure([]api.Label{x}); slices.Contains(back, o.Label) {
			group = append(group, x)
		}
	}
	var members []api.Member
	for _, x := range group {
		y, _ := s.Get(x)
		m := api.Member{Name: x.Name, Ark: y.Ark}
		for _, ref := range y.Refs {
			if which := slices.Index(group, ref); which < 0 {
				m.Refs = append(m.Refs, ref)
			} else {
				for _, at := range plainPlaces(y.Ark, ref) {
					m.Hits = append(m.Hits, api.Hit{At: at, Which: which})
				}
			}
		}
		for _, ref := range there {
			if len(plainPlaces(y.Ark, ref)) > 0 != slices.Contains(y.Refs, ref) {
				return "does not mention just what it refers to"
			}
		}
		slices.SortFunc(m.Hits, func(a, b api.Hit) int { return a.At - b.At })
		members = append(members, m)
	}
	n, e, at := modulo.Group(members)
	if e != api.OK {
		return fmt.Sprint("is in no group: ", e, at)
	}
	if named := n.Labels[slices.Index(group, o.Label)]; named != o.Label {
		return "is called " + textOf(named)
	}
	return ""
}

// owned holds that all that is on the shelf is called what it must be called. (Recipes were put there by the test: some with
// guests among their sources.)
func (w *world) owned() {
	w.t.Helper()
	for _, l := range w.s.List() {
		if why := wrongly(w.s, l); why != "" && !strings.HasSuffix(l.Name, ".recipe") {
			w.t.Errorf("P14.9: %s %s", textOf(l), why)
		}
	}
}

// scratches is the scratch hash parts of a floating recipe's outputs.
func (w *world) scratches(l api.Label) []string {
	w.t.Helper()
	r, e, _ := Resolve(w.s, l)
	if e != api.OK {
		w.t.Fatalf("P14.5: %d", e)
	}
	sum, e, _ := modulo.Hash(strings.TrimSuffix(l.Name, ".recipe"), recipe.Blank(r), nil)
	if e != api.OK {
		sum = w.sum(l)
	}
	var out []string
	for _, o := range r.Outputs {
		out = append(out, digitsOf(modulo.Scratch(sum, o.Name)))
	}
	return out
}

// floats holds that a floating recipe can be made, what its outputs are, and that they are called what they must be called.
func (w *world) floats(l api.Label) []api.Object {
	w.t.Helper()
	scratch := w.scratches(l)
	got := w.comes(l)
	w.owned()
	for i, o := range got {
		if o.Ca != api.ByGroup || o.Maker != "" {
			w.t.Errorf("P14.7: mode 2: output %d: %d, %q", i, o.Ca, o.Maker)
		}
		for _, s := range scratch {
			if strings.Contains(string(o.Ark), s) {
				w.t.Errorf("P14.7: mode 2: output %d has a scratch hash part", i)
			}
		}
	}
	return got
}

// Outputs that mention themselves, one another, in rings and in chains.
func TestFloating(t *testing.T) {
	own := tree("own", dir(entry("f", file("x"))))
	for what, c := range map[string]struct {
		outputs string
		args    []string
		refs    []string // by output, the numbers of those that it refers to
	}{
		"plain":        {"out", []string{"file out x"}, []string{""}},
		"itself":       {"out", []string{"file out ${out}"}, []string{"0"}},
		"twice":        {"out", []string{"file out ${out} ${out}/x"}, []string{"0"}},
		"by a link":    {"out", []string{"dir out", "link out/l ${out}/m"}, []string{"0"}},
		"two, free":    {"doc out", []string{"file out x", "file doc x"}, []string{"", ""}},
		"one way":      {"doc out", []string{"file out ${doc}", "file doc x"}, []string{"", "0"}},
		"the other":    {"doc out", []string{"file out x", "file doc ${out}"}, []string{"1", ""}},
		"each other":   {"doc out", []string{"file out ${doc}", "file doc ${out}"}, []string{"1", "0"}},
		"both selves":  {"doc out", []string{"file out ${out}", "file doc ${doc}"}, []string{"0", "1"}},
		"all":          {"doc out", []string{"file out ${doc} ${out}", "file doc ${out} ${doc}"}, []string{"01", "01"}},
		"a ring":       {"a b c", []string{"file a ${b}", "file b ${c}", "file c ${a}"}, []string{"1", "2", "0"}},
		"a chain":      {"a b c d", []string{"file a ${b}", "file b ${c}", "file c ${d}", "file d x"}, []string{"1", "2", "3", ""}},
		"chain back":   {"a b c d", []string{"file d ${c}", "file c ${b}", "file b ${a}", "file a x"}, []string{"", "0", "1", "2"}},
		"over a ring":  {"a b c d", []string{"file a ${b}${c}", "file b ${c}", "file c ${b} ${d}", "file d ${d}"}, []string{"12", "2", "13", "3"}},
		"two rings":    {"a b c d out", []string{"file a ${c}", "file c ${a}", "file b ${d} ${a}", "file d ${b}", "file out ${a}${b}${c}${d}"}, []string{"2", "03", "0", "1", "0123"}},
		"out in rings": {"a out z", []string{"file a ${out}", "file out ${z}", "file z ${a}"}, []string{"1", "2", "0"}},
	} {
		w := newWorld(t, own)
		l := w.lay("n", recipeOf(2, c.outputs, c.args...))
		got := w.floats(l)
		for i, o := range got {
			var refs []api.Label
			for _, x := range c.refs[i] {
				refs = append(refs, got[x-'0'].Label)
			}
			if !slices.Equal(o.Refs, label.Sort(refs)) {
				t.Errorf("P14.7: mode 2: %s: output %d refers to %s, want %s", what, i, showLabels(o.Refs), showLabels(refs))
			}
			name := strings.Fields(c.outputs)[i]
			if want := map[bool]string{true: "n", false: "n-" + name}[name == "out"]; o.Label.Name != want {
				t.Errorf("P14.7: mode 2: %s: output %d is called %s", what, i, o.Label.Name)
			}
			if made, e := w.s.Made(w.key(l, name)); e != api.OK || made != o.Label {
				t.Errorf("P14.7: 6: %s: %s", what, showLabel(made))
			}
		}
		if n := len(w.s.Mades()); n != len(got) { // without inputs both sums are one
			t.Errorf("P14.7: 6: %s: %d mades", what, n)
		}
	}
}

// The bytes are the steps' but for the scratch hash parts, which have become the new ones.
func TestFloatingBytes(t *testing.T) {
	own := tree("own", dir(entry("f", file("x"))))
	w := newWorld(t, own)
	l := w.lay("n", from(recipeOf(2, "doc out", "dir out", "link out/l ${doc}/d", "file out/f a ${out} b ${doc}"+textOf(own.Label)+"${out}", "exec out/f", "file doc ${out}${doc}"), own.Label))
	got := w.floats(l)
	doc, out := got[0].Label, got[1].Label
	if want := dir(entry("f", program("a "+textOf(out)+" b "+textOf(doc)+textOf(own.Label)+textOf(out))), entry("l", link(textOf(doc)+"/d"))); string(got[1].Ark) != string(arkFor(want)) {
		t.Errorf("P14.7: mode 2: %s, want %s", showTree(w.tree(out)), showTree(want))
	}
	if w.bytes(doc) != textOf(out)+textOf(doc) {
		t.Errorf("P14.7: mode 2: %q", w.bytes(doc))
	}
	if !slices.Equal(got[1].Refs, label.Sort([]api.Label{doc, out, own.Label})) {
		t.Errorf("P14.7: mode 2: %s", showLabels(got[1].Refs))
	}
}

// What may not be mentioned, and where.
func TestFloatingMentions(t *testing.T) {
	own, foreign := tree("own", file("x")), guest(numbered(1), dir(entry("f", file("y"))))
	over := guest(numbered(2), file("z"), foreign.Label, own.Label)
	zeros := api.Object{Label: api.Label{Name: "z"}, Ark: arkFor(file("z")), Ca: api.BySource} // by hand: its label is not its content's
	ones := api.Object{Label: api.Label{Hash: api.Hash{1}, Name: "o"}, Ark: arkFor(file("o")), Ca: api.BySource}
	near := api.Object{Label: api.Label{Name: "near"}, Ark: arkFor(file("n")), Ca: api.BySource} // its digits are a 0 and 31 times a 1
	digits, _, _ := digest.UnBase32("0" + strings.Repeat("1", 31))
	copy(near.Label.Hash[:], digits)
	w := newWorld(t, own, foreign, over, zeros, ones, near)
	z := strings.Repeat("0", 32)
	for what, r := range map[string]api.Recipe{
		"a guest":                    from(float("file out "+part(foreign.Label)), foreign.Label),
		"a guest, by a link":         from(float("link out "+textOf(foreign.Label)), foreign.Label),
		"a guest over a guest":       from(float("file out "+part(foreign.Label)), over.Label),
		"a guest by another output":  from(recipeOf(2, "doc out", "file out x", "file doc "+part(over.Label)), over.Label),
		"in an entry's name":         from(float("dir out", "dir out/"+part(own.Label)), own.Label),
		"within an entry's name":     from(float("dir out", "dir out/d", "file out/d/x"+part(own.Label)+"y x"), own.Label),
		"in a name, and in a file":   from(float("dir out", "file out/"+part(own.Label)+" "+part(own.Label)), own.Label),
		"overlapping":                from(float("file out "+z+"1"), zeros.Label, ones.Label),
		"overlapping by 31 digits":   from(float("file out 0"+z), zeros.Label),
		"overlapping by a digit":     from(float("file out "+z+strings.Repeat("1", 31)), zeros.Label, near.Label),
		"overlapping itself":         from(float("link out "+z+"0"), zeros.Label),
		"overlapping, behind others": from(float("file out "+z+" "+z+z+"0"), zeros.Label),
		"overlapping a guest":        from(float("file out 0"+z+part(foreign.Label)), zeros.Label, foreign.Label),
	} {
		w.notMade("P14.7: mode 2: "+what, w.lay("bad", r))
	}
	for what, r := range map[string]api.Recipe{
		"a guest that is not mentioned": from(float("copy out "+textOf(foreign.Label)+"/f"), over.Label),
		"one that is not among them":    float("file out " + part(foreign.Label)),
		"in a name, but none of them":   float("dir out", "dir out/"+part(own.Label)),
		"in a name, a digit less":       from(float("dir out", "dir out/"+part(own.Label)[1:]), own.Label),
		"side by side":                  from(float("file out "+part(own.Label)+part(own.Label)), own.Label),
		"31 of them":                    from(float("file out "+z[1:]), zeros.Label),
		"one behind the other":          from(float("file out "+z+part(near.Label)[:31]+" "+part(near.Label)), near.Label),
		"an own one over a guest":       from(float("file out "+part(own.Label)), over.Label),
	} {
		l := w.lay("good", r)
		if f, e := w.both(want(l)); e != api.OK {
			t.Errorf("P14.7: mode 2: %s: %d, %s", what, e, showForging(f))
		}
	}
}

// scratchWorld is a recipe that has a source with any content: so that this may hold what the recipe's sum comes to.
func scratchWorld(t *testing.T, args []string, content func(scratch api.Label) []api.Object) (*world, api.Label) {
	t.Helper()
	source := numbered(1)
	r := from(float(args...), source)
	sum, e, _ := modulo.Hash("n", r, nil)
	if e != api.OK {
		t.Fatalf("P7.1: %d", e)
	}
	w := newWorld(t, content(api.Label{Hash: modulo.Scratch(sum, "out"), Name: "n"})...)
	return w, w.lay("n", r)
}

// The scratch hash part where a guest brought it in: within an entry's name, overlapping, or as plain bytes.
func TestScratchBroughtIn(t *testing.T) {
	copied := []string{"copy out " + textOf(numbered(1))}
	brings := func(tree func(s api.Label) api.Node) func(s api.Label) []api.Object {
		return func(s api.Label) []api.Object { return []api.Object{guest(numbered(1), tree(s))} }
	}
	w, l := scratchWorld(t, copied, brings(func(s api.Label) api.Node { return dir(entry(part(s), file("x"))) }))
	w.notMade("P14.7: mode 2: scratch in a name", l)
	w, l = scratchWorld(t, copied, brings(func(s api.Label) api.Node { return dir(entry("a", dir(entry("x"+part(s)+"-n", dir())))) }))
	w.notMade("P14.7: mode 2: scratch in a name", l)
	w, l = scratchWorld(t, copied, brings(func(s api.Label) api.Node { return file("see " + part(s) + ", not " + part(s)[1:]) }))
	got := w.floats(l)
	if want := "see " + part(got[0].Label) + ", not "; !strings.HasPrefix(w.bytes(got[0].Label), want) || !slices.Equal(got[0].Refs, []api.Label{got[0].Label}) {
		t.Errorf("P14.7: mode 2: %q", w.bytes(got[0].Label))
	}
}

// A label of the closure that has the scratch hash part: another name is refused, also where nobody mentions it; the same one is
// a guest that is mentioned, or is not.
func TestScratchThere(t *testing.T) {
	for _, c := range []struct {
		what string
		name string
		ca   api.Ca
		text string
		ok   bool
	}{
		{"another name, not mentioned", "other", api.Guest, "x", false},
		{"another name, mentioned", "other", api.Guest, "${out}", false},
		{"another name, own", "other", api.BySource, "x", false},
		{"the same, mentioned", "n", api.Guest, "${out}", false},
		{"the same, not mentioned", "n", api.Guest, "x", true},
		{"the same, own, mentioned", "n", api.BySource, "${out}", true},
	} {
		w, l := scratchWorld(t, []string{"file out " + c.text}, func(s api.Label) []api.Object {
			s.Name = c.name
			low := guest(s, file("low"))
			low.Ca = c.ca
			return []api.Object{low, guest(numbered(1), file("top"), s)}
		})
		if !c.ok {
			w.notMade("P14.7: mode 2: "+c.what, l)
		} else if f, e := w.both(want(l)); e != api.OK {
			t.Errorf("P14.7: mode 2: %s: %d, %s", c.what, e, showForging(f))
		}
	}
	// Beside the closure it has no part in it.
	for _, name := range []string{"n", "other"} {
		w, l := scratchWorld(t, []string{"file out ${out}"}, func(s api.Label) []api.Object {
			s.Name = name
			return []api.Object{guest(s, file("low")), guest(numbered(1), file("top"))}
		})
		if f, e := w.both(want(l)); e != api.OK {
			t.Errorf("W11: %s: %d, %s", name, e, showForging(f))
		}
	}
}

// MaxRefs, and one more; itself and other outputs among them.
func TestFloatingRefs(t *testing.T) {
	objects, labels, top := crowd(300, true)
	w := newWorld(t, objects...)
	text := func(n int) string {
		var out string
		for _, l := range labels[:n] {
			out += part(l) + "-"
		}
		return out
	}
	for n, ok := range map[int]bool{256: true, 257: false} {
		for what, r := range map[string]api.Recipe{
			"others":        recipeOf(2, "doc out", "file out "+text(n), "file doc x"),
			"itself":        recipeOf(2, "out", "file out "+text(n-1)+"${out}"),
			"other outputs": recipeOf(2, "doc out", "file out "+text(n-1)+"${doc}", "file doc x"),
			"and itself":    recipeOf(2, "doc out", "file out "+text(n-2)+"${doc}${out}", "file doc x"),
			"twice":         recipeOf(2, "doc out", "file doc "+text(n), "copy out doc"),
			"in a group":    recipeOf(2, "doc out", "file out "+text(n-1)+"${doc}", "file doc ${out}"),
		} {
			l := w.lay("r", from(r, top))
			if !ok {
				w.notMade("P14.7: mode 2: too many: "+what, l)
				continue
			}
			b := bothOn(t, w.v.Disk(), 1<<24)
			if told := b.make(wants(l), 2); !strings.HasPrefix(told, "0 ") {
				t.Errorf("P14.7: mode 2: %s: %s", what, told)
			}
		}
	}
}

// An output that comes to something that another one mentions already: what they refer to becomes less.
func TestFloatingMerges(t *testing.T) {
	w := newWorld(t)
	first := w.lay("n", recipeOf(2, "a", "file a x"))
	a := w.comes(first)[0].Label
	l := w.lay("n", from(recipeOf(2, "a out", "file a x", "file out ${a} "+part(a)), a))
	got := w.floats(l)
	if got[0].Label != a || !slices.Equal(got[1].Refs, []api.Label{a}) || w.bytes(got[1].Label) != textOf(a)+" "+part(a) {
		t.Errorf("P14.7: mode 2: %s", showLabels(got[1].Refs))
	}
	// It is counted by what is mentioned, of which there are 257.
	objects, labels, top := crowd(300, true)
	w.put(objects...)
	text := part(a) + "-"
	for _, l := range labels[:255] {
		text += part(l) + "-"
	}
	w.notMade("P14.7: mode 2: too many mentioned", w.lay("n", from(recipeOf(2, "a out", "file a x", "file out ${a} "+text), a, top)))
	less := w.lay("n", from(recipeOf(2, "a out", "file a x", "file out ${a} "+text[:len(text)-33]), a, top))
	if got := w.comes(less); len(got[1].Refs) != 255 {
		t.Errorf("P14.7: mode 2: %d references", len(got[1].Refs))
	}
}

// ringOf is a recipe whose outputs mention one another in a ring.
func ringOf(n int) api.Recipe {
	var outputs, args []string
	for i := range n {
		outputs = append(outputs, fmt.Sprintf("o%03d", i))
		args = append(args, fmt.Sprintf("file o%03d ${o%03d}", i, (i+1)%n))
	}
	return recipeOf(2, strings.Join(outputs, " "), args...)
}

// MaxGroup members, and one more.
func TestMostMembers(t *testing.T) {
	w := newWorld(t)
	for _, n := range []int{1, 2, 63, 64} {
		l := w.lay("ring", ringOf(n))
		if f, e := w.both(want(l)); e != api.OK || len(f.Mades) != n {
			t.Errorf("P14.7: mode 2: a ring of %d: %d", n, e)
		}
	}
	w.owned()
	for _, n := range []int{65, 100, 256} {
		w.notMade(fmt.Sprint("P14.7: mode 2: a ring of ", n), w.lay("ring", ringOf(n)))
	}
	// As many outputs as there may be, in groups that are none too great.
	r := ringOf(256)
	for i := range 256 {
		r.Args[i] = fmt.Sprintf("file o%03d ${o%03d} ${o%03d}", i, i/64*64+(i+1)%64, (i+64)%256/64*64)
		if i >= 192 {
			r.Args[i] = fmt.Sprintf("file o%03d ${o%03d}", i, i/64*64+(i+1)%64)
		}
	}
	l := w.lay("rings", r)
	f, e := Make(w.s, wants(l), 2)
	if e != api.OK || len(f.Mades) != 256 {
		t.Fatalf("P14.7: mode 2: %d, %d", e, f.Step)
	}
	for _, i := range []int{0, 70, 130, 255} {
		if why := wrongly(w.s, f.Mades[i].Label); why != "" {
			t.Errorf("P14.9: %d %s", i, why)
		}
	}
}

// Object names that are none: ErrMade, but behind the steps; and what they are put in as is "".
func TestObjectNames(t *testing.T) {
	w := newWorld(t)
	long := strings.Repeat("n", 204)
	args := []string{"file details x${details}y", "file out ${out}"}
	w.notMade("P14.7: mode 2: no name", w.lay(long, recipeOf(2, "details out", args...)))
	w.notMade("P14.7: mode 2: no name, not mentioned", w.lay(long, recipeOf(2, "details out", "file details x", "file out x")))
	// It is "" in the environment: so this step is done only if it is.
	w.notMade("P14.7: 4: no name is no text", w.lay(long, recipeOf(2, "details out", "file details x", "file out ${details}", "drop out", "file out${details} x")))
	fails := w.lay(long, recipeOf(2, "details out", "file details x", "file out${details} x", "swap out ${details} y"))
	w.refuse("P14.7: 4: a step fails", api.ErrStep, fails, 2, nil, want(fails))
	// One byte less is a name.
	l := w.lay(long, recipeOf(2, "detail out", "file detail x${detail}y", "file out ${out}"))
	if got := w.floats(l); got[0].Label.Name != long+"-detail" || len(got[0].Label.Name) != api.MaxName {
		t.Errorf("P14.7: mode 2: %s", got[0].Label.Name)
	}
	// And out is called as the recipe is, whatever the others are.
	l = w.lay(long, recipeOf(2, "out", "file out x"))
	if got := w.floats(l); got[0].Label.Name != long {
		t.Errorf("P14.7: mode 2: %s", got[0].Label.Name)
	}
}

// memberAlone is the label of a file without mentions, under a name of its own.
func memberAlone(t *testing.T, name, text string) api.Label {
	t.Helper()
	n, e, _ := modulo.Group([]api.Member{{Name: name, Ark: arkFor(file(text))}})
	if e != api.OK {
		t.Fatalf("P7.6: %d", e)
	}
	return n.Labels[0]
}

// A new label's hash part where there was no mention.
func TestStray(t *testing.T) {
	a := memberAlone(t, "n-a", "hi")
	w := newWorld(t)
	for what, args := range map[string][]string{
		"in another output":        {"file a hi", "file out " + part(a)},
		"in a link":                {"file a hi", "link out x" + part(a) + "y"},
		"in a name":                {"file a hi", "dir out", "dir out/" + part(a)},
		"beside a mention":         {"file a hi", "file out ${a} " + part(a)},
		"in one that names itself": {"file a hi", "file out ${out} " + part(a)},
	} {
		w.notMade("P14.7: mode 2: stray "+what, w.lay("n", recipeOf(2, "a out", args...)))
	}
	// A digit less, or another name's label, is none.
	for _, args := range [][]string{{"file a hi", "file out " + part(a)[1:]}, {"file a ho", "file out " + part(a)}} {
		w.comes(w.lay("n", recipeOf(2, "a out", args...)))
	}
	w.comes(w.lay("m", recipeOf(2, "a out", "file a hi", "file out "+part(a))))
	// Where the label is among the candidates it is a mention.
	w = newWorld(t)
	made := w.comes(w.lay("n", recipeOf(2, "a", "file a hi")))[0].Label
	if made != a {
		t.Fatal("P14.9")
	}
	got := w.floats(w.lay("n", from(recipeOf(2, "a out", "file a hi", "file out "+part(a)), a)))
	if !slices.Equal(got[1].Refs, []api.Label{a}) {
		t.Errorf("P14.7: mode 2: %s", showLabels(got[1].Refs))
	}
}

// A new hash part comes together with its neighbours to another one: at a place where nothing was mentioned.
func TestStrayByNeighbours(t *testing.T) {
	a := memberAlone(t, "n-a", "hi")
	// An object of the closure whose hash part is the last 31 digits of a's and a z: by hand.
	digits, e, _ := digest.UnBase32(part(a)[1:] + "z")
	if e != api.OK {
		t.Fatalf("1.5: %d", e)
	}
	var h api.Hash
	copy(h[:], digits)
	near := api.Object{Label: api.Label{Hash: h, Name: "near"}, Ark: arkFor(file("near")), Ca: api.BySource}
	// The scratch hash part is brought in by a guest, so that no dash need stand behind it.
	r := from(recipeOf(2, "a out", "file a hi", "copy out "+textOf(numbered(1))), near.Label, numbered(1))
	sum, e, _ := modulo.Hash("n", r, nil)
	if e != api.OK {
		t.Fatalf("P7.1: %d", e)
	}
	scratch := digitsOf(modulo.Scratch(sum, "a"))
	for text, ok := range map[string]bool{scratch + "z": false, scratch + "y": true, scratch + " z": true, "z" + scratch: true} {
		w := newWorld(t, near, guest(numbered(1), file(text)))
		l := w.lay("n", r)
		if ok {
			w.comes(l)
		} else {
			w.notMade("P14.7: mode 2: by neighbours", l)
		}
	}
}

// What is on the shelf by these names: the same is fine, something else is the shelf's error.
func TestFloatingThere(t *testing.T) {
	a := memberAlone(t, "n", "hi")
	right := api.Object{Label: a, Ark: arkFor(file("hi")), Ca: api.ByGroup}
	other := right
	other.Label.Name = "m"
	for what, c := range map[string]struct {
		o api.Object
		e api.Errno
	}{
		"the same": {right, api.OK}, "another name": {other, api.ErrClash}, "a guest": {guest(a, file("hi")), api.ErrThere}, "other bytes": {api.Object{Label: a, Ark: arkFor(file("ho")), Ca: api.ByGroup}, api.ErrThere},
		"a maker": {api.Object{Label: a, Ark: right.Ark, Ca: api.ByGroup, Maker: textOf(a)}, api.ErrThere},
	} {
		w := newWorld(t, c.o)
		l := w.lay("n", float("file out hi"))
		b := bothOn(t, w.v.Disk(), 1<<24)
		b.make(wants(l), 2)
		if c.e != api.OK {
			w.refuse("P14.7: 6: "+what, c.e, l, 0, []api.Label{l}, want(l))
		} else if got := w.comes(l)[0]; fmt.Sprint(got) != fmt.Sprint(right) {
			t.Errorf("P14.7: 6: %s: %v", what, got)
		}
	}
	// One output's key has another label, the other's none: it is run, and refused.
	x := tree("x", file("x"))
	w := newWorld(t, x)
	l := w.lay("n", recipeOf(2, "doc out", "file out hi", "file doc ho"))
	w.s.Apply([]api.Step{madeOf(w.key(l, "doc"), x.Label)})
	b := bothOn(t, w.v.Disk(), 1<<24)
	b.make(wants(l), 2)
	w.refuse("P14.7: 6: another made", api.ErrThere, l, 0, []api.Label{l}, want(l))
	// Both have one: they are made, whatever they are.
	w.s.Apply([]api.Step{madeOf(w.key(l, "out"), x.Label)})
	if got := w.make(want(l)); got[0] != x.Label || got[1] != x.Label {
		t.Errorf("P14.7: 1: %s", showLabels(got))
	}
}

// P14.9: two recipes of one name whose trees are the same but for the scratch hash parts come to one object.
func TestOneThing(t *testing.T) {
	w := newWorld(t)
	one := w.lay("n", recipeOf(2, "doc out", "file out ${doc} ${out}", "file doc ${out}"))
	two := w.lay("n", recipeOf(2, "doc out", "dir tmp", "file doc ${out}", "file out ${doc}", "text out  ${out}"))
	got, same := w.floats(one), w.floats(two)
	if fmt.Sprint(got) != fmt.Sprint(same) || w.key(one, "out") == w.key(two, "out") {
		t.Errorf("P14.9: %s, %s", showLabel(got[0].Label), showLabel(same[0].Label))
	}
	objects := len(w.s.List())
	// Another name, another output's name, other bytes: another thing.
	for i, l := range []api.Label{
		w.lay("m", recipeOf(2, "doc out", "file out ${doc} ${out}", "file doc ${out}")), w.lay("n", recipeOf(2, "dob out", "file out ${dob} ${out}", "file dob ${out}")),
		w.lay("n", recipeOf(2, "doc out", "file out ${doc} ${out}", "file doc ${out} ")), w.lay("n", recipeOf(2, "doc out", "file out ${doc} ${doc}", "file doc ${out}")),
	} {
		for _, o := range w.floats(l) {
			if o.Label == got[0].Label || o.Label == got[1].Label {
				t.Errorf("P14.9: %d comes to the same", i)
			}
		}
	}
	if n := len(w.s.List()); n != objects+4+8 {
		t.Errorf("P14.9: %d objects, want %d", n, objects+12)
	}
}
