package forge

import (
	"fmt"
	"slices"
	"strings"
	"testing"

	"graft/api"
	"graft/label"
)

// both plays a Make on this world's shelf and by the plain reading, and goes on with what it left: what Make answered.
func (w *world) both(asked ...api.Want) (api.Forging, api.Errno) {
	w.t.Helper()
	b := bothOn(w.t, w.v.Disk(), 1<<24)
	b.make(asked, 3)
	return Make(w.s, asked, 2)
}

// comes holds that a recipe can be made, and what its outputs are.
func (w *world) comes(l api.Label) []api.Object {
	w.t.Helper()
	f, e := w.both(want(l))
	if e != api.OK {
		w.t.Fatalf("P14.6: %d, %s", e, showForging(f))
	}
	var out []api.Object
	for _, m := range f.Mades {
		out = append(out, w.get(m.Label))
	}
	return out
}

// notMade holds that a recipe comes to ErrMade, behind all its steps, and that nothing of it stays.
func (w *world) notMade(what string, l api.Label) {
	w.t.Helper()
	b := bothOn(w.t, w.v.Disk(), 1<<24)
	b.make(wants(l), 3)
	k := read(w.s, l)
	w.refuse(what, api.ErrMade, l, len(k.recipe.Args), []api.Label{l}, want(l))
}

// Mode 0: guests, that refer to the candidates that they mention.
func TestGuests(t *testing.T) {
	a, c := guest(numbered(1), file("a")), guest(numbered(3), file("c"))
	b := guest(numbered(2), file("b"), a.Label)
	own := tree("own", file("x"))
	w := newWorld(t, a, b, c, own)
	r := from(recipeOf(0, "dev doc out",
		"file out "+part(a.Label)+textOf(b.Label)+part(b.Label), // a is there by b alone
		"dir doc", "link doc/l ${out}", "dir doc/"+part(own.Label), "file doc/f "+part(c.Label), // c is not among them
		"file dev ${dev}${doc}"), b.Label, own.Label)
	l := w.lay("g", r)
	dev, doc, out := w.outLabel(l, "dev"), w.outLabel(l, "doc"), w.outLabel(l, "out")
	got := w.comes(l)
	inDoc := dir(entry(part(own.Label), dir()), entry("f", file(part(c.Label))), entry("l", link(textOf(out))))
	slices.SortFunc(inDoc.List, func(x, y api.Entry) int { return strings.Compare(x.Name, y.Name) })
	for i, want := range []api.Object{
		{Label: dev, Refs: label.Sort([]api.Label{dev, doc}), Ark: arkFor(file(textOf(dev) + textOf(doc)))},
		{Label: doc, Refs: label.Sort([]api.Label{out, own.Label}), Ark: arkFor(inDoc)},
		{Label: out, Refs: label.Sort([]api.Label{a.Label, b.Label}), Ark: arkFor(file(part(a.Label) + textOf(b.Label) + part(b.Label)))},
	} {
		want.Maker = textOf(l)
		if fmt.Sprint(got[i]) != fmt.Sprint(want) {
			t.Errorf("P14.7: mode 0: %d: %s, want %s", i, showLabels(got[i].Refs), showLabels(want.Refs))
		}
	}
	if len(w.s.Mades()) > 0 {
		t.Error("P14.7: mode 0: there are mades")
	}
}

// Mode 0: mentions that overlap count; a hash part with a digit less is none.
func TestGuestsMentions(t *testing.T) {
	var zero, one api.Hash // 32 digits 0; and 31 of them and another one
	one[0] = 1
	zeros := guest(api.Label{Hash: zero, Name: "z"}, file("z"))
	ones := guest(api.Label{Hash: one, Name: "o"}, file("o"))
	for text, refs := range map[string][]api.Label{
		strings.Repeat("0", 31): nil, strings.Repeat("0", 32): {zeros.Label}, strings.Repeat("0", 31) + "1": {ones.Label}, strings.Repeat("0", 32) + "1": {zeros.Label, ones.Label},
		strings.Repeat("0", 30) + "10": nil, strings.Repeat("0", 16) + "\n" + strings.Repeat("0", 16): nil,
	} {
		w := newWorld(t, zeros, ones)
		l := w.lay("g", from(recipeOf(0, "out", "file out "+text), zeros.Label, ones.Label))
		if got := w.comes(l)[0]; !slices.Equal(got.Refs, label.Sort(refs)) {
			t.Errorf("P14.7: mode 0: %q: %s", text, showLabels(got.Refs))
		}
		f := w.lay("f", from(flat(text, "file out "+text), zeros.Label, ones.Label))
		if len(refs) > 0 {
			w.notMade("P14.7: mode 1", f)
		} else {
			w.comes(f)
		}
	}
}

// crowd is so many guests, or own objects, and one that refers to all of them by others.
func crowd(n int, own bool) (objects []api.Object, labels []api.Label, top api.Label) {
	for i := range n {
		o := guest(numbered(i), file(fmt.Sprint(i)))
		if own {
			o = tree("c", file(fmt.Sprint(i)))
		}
		objects, labels = append(objects, o), append(labels, o.Label)
	}
	var tops []api.Label
	for i := 0; i < n; i += 200 {
		o := guest(numbered(100000+i), file("top"), labels[i:min(n, i+200)]...)
		objects, tops = append(objects, o), append(tops, o.Label)
	}
	o := guest(numbered(200000), file("all"), tops...)
	return append(objects, o), labels, o.Label
}

// MaxRefs, and one more: of the candidates that an output mentions, itself among them.
func TestMostRefs(t *testing.T) {
	objects, labels, top := crowd(300, false)
	w := newWorld(t, objects...)
	text := func(n int) string {
		var out string
		for _, l := range labels[:n] {
			out += part(l) + "-"
		}
		return out
	}
	for n, ok := range map[int]bool{255: true, 256: true, 257: false} {
		l := w.lay("g", from(recipeOf(0, "doc out", "file out "+text(n), "file doc x"), top))
		if ok {
			if got := w.comes(l)[1]; len(got.Refs) != n {
				t.Errorf("P14.7: mode 0: %d references", len(got.Refs))
			}
		} else {
			w.notMade("P14.7: mode 0: too many", l)
		}
		l = w.lay("s", from(recipeOf(0, "out", "file out "+text(n-1)+"${out}"), top))
		if ok {
			if got := w.comes(l)[0]; len(got.Refs) != n || !slices.Contains(got.Refs, got.Label) {
				t.Errorf("P14.7: mode 0: %d references", len(got.Refs))
			}
		} else {
			w.notMade("P14.7: mode 0: too many with itself", l)
		}
	}
	// An output that is on the shelf already is asked too.
	l := w.lay("p", from(recipeOf(0, "doc out", "file out "+text(257), "file doc x"), top))
	w.put(guest(w.outLabel(l, "out"), file("there")))
	w.notMade("P14.7: mode 0: too many, of one that is there", l)
}

// More candidates than one sieve takes: a whole shelf of them.
func TestManyCandidates(t *testing.T) {
	n := api.MaxObjects - 30
	objects, labels, top := crowd(n, false)
	w := worldOf(t, api.MaxRoom)
	for some := range slices.Chunk(objects, 1000) {
		w.put(some...)
	}
	// With 30 outputs there are more than 4096 labels; all of them are found, wherever they come in order.
	var outputs, args []string
	all := label.Sort(labels)
	for i := range 40 {
		name := fmt.Sprintf("o%02d", i)
		outputs = append(outputs, name)
		args = append(args, fmt.Sprintf("file %s %s ${o%02d} %s", name, part(all[i*100]), (i+1)%40, part(all[n-1-i])))
	}
	l := w.lay("g", from(recipeOf(0, strings.Join(outputs, " "), args...), top))
	k := read(w.s, l)
	closure, _, _ := w.s.Closure(parsedAll(k.recipe.Sources))
	c := castOf(slices.Concat(closure, job{known: k, resolved: k.recipe}.outputLabels()))
	if len(c.finder) != 2 || len(c.labels) <= api.MaxPatterns {
		t.Fatalf("%d labels, %d sieves", len(c.labels), len(c.finder))
	}
	var hashes []api.Hash
	for _, l := range c.labels {
		hashes = append(hashes, l.Hash)
	}
	var data []byte
	for _, h := range slices.Backward(hashes) { // so those of the second sieve come first
		data = append(data, digitsOf(h)...)
	}
	if hits := c.hits(data); len(hits) < len(hashes) || !slices.IsSortedFunc(hits, func(a, b api.Hit) int { return a.At - b.At }) || !slices.Equal(c.mentioned(hits), c.labels) {
		t.Errorf("%d hits of %d", len(hits), len(hashes))
	}
	p := job{known: k, shelf: w.s, resolved: k.recipe}.forge()
	if p.e != api.OK {
		t.Fatalf("P14.7: %d, %d", p.e, p.step)
	}
	for i, o := range p.objects {
		if want := label.Sort([]api.Label{all[i*100], all[n-1-i], w.outLabel(l, fmt.Sprintf("o%02d", (i+1)%40))}); !slices.Equal(o.Refs, want) {
			t.Errorf("P14.7: %d: %s, want %s", i, showLabels(o.Refs), showLabels(want))
		}
	}
}

// Mode 0: an output that is on the shelf already stays as it is there.
func TestGuestsThere(t *testing.T) {
	w := newWorld(t)
	l := w.lay("g", recipeOf(0, "dev doc out", "file out ${doc}", "file doc ${out}", "file dev x"))
	there := guest(w.outLabel(l, "doc"), file("other"))
	w.put(there)
	last := w.s.Last()
	got := w.comes(l)
	if fmt.Sprint(got[1]) != fmt.Sprint(there) || got[0].Maker != textOf(l) || !slices.Equal(got[2].Refs, []api.Label{there.Label}) || w.s.Last() != last+1 {
		t.Errorf("P14.7: mode 0: %v", got[1])
	}
	// And another one mentions it.
	l = w.lay("h", recipeOf(0, "doc out", "file out ${doc}", "file doc x"))
	doc := guest(w.outLabel(l, "doc"), file("mine"))
	w.put(doc)
	if got := w.comes(l); fmt.Sprint(got[0]) != fmt.Sprint(doc) || !slices.Equal(got[1].Refs, []api.Label{doc.Label}) {
		t.Errorf("P14.7: mode 0: %v", got)
	}
	// One of its hash part and another name: the shelf's error.
	l = w.lay("i", recipeOf(0, "out", "file out x"))
	clash := w.outLabel(l, "out")
	clash.Name = "other"
	w.put(guest(clash, file("x")))
	b := bothOn(t, w.v.Disk(), 1<<24)
	b.make(wants(l), 2)
	w.refuse("P14.7: 6: a clash", api.ErrClash, l, 0, []api.Label{l}, want(l))
}

// Mode 0: two unlike candidates with one hash part are both mentioned, and the shelf refuses them.
func TestGuestsClash(t *testing.T) {
	w := newWorld(t)
	low := guest(numbered(1), file("low"))
	w.put(low)
	l := w.lay("g", from(recipeOf(0, "out", "file out ${out}"), low.Label))
	clash := w.outLabel(l, "out")
	clash.Name = "other"
	again := newWorld(t)
	again.put(guest(clash, file("x")), guest(low.Label, file("low"), clash))
	l2 := again.lay("g", from(recipeOf(0, "out", "file out ${out}"), low.Label))
	if l2 != l {
		t.Fatal("another recipe")
	}
	k := read(again.s, l)
	p := job{known: k, shelf: again.s, resolved: k.recipe}.forge()
	if p.e != api.OK || len(p.objects) != 1 || !slices.Equal(p.objects[0].Refs, label.Sort([]api.Label{clash, w.outLabel(l, "out")})) {
		t.Errorf("P14.7: mode 0: %d, %v", p.e, p.objects)
	}
	b := bothOn(t, again.v.Disk(), 1<<24)
	b.make(wants(l), 2)
	again.refuse("P14.7: 6: a clash", api.ErrClash, l, 0, []api.Label{l}, want(l))
}

// Mode 1: sums that are right and wrong, of files and of trees.
func TestFixed(t *testing.T) {
	w := newWorld(t, tree("own", file("x")))
	own := w.s.List()[0]
	l := w.lay("x", flat("abc", "file out abc"))
	got := w.comes(l)[0]
	if want := (api.Object{Label: w.outLabel(l, "out"), Ark: arkFor(file("abc")), Ca: api.ByFlat}); fmt.Sprint(got) != fmt.Sprint(want) {
		t.Errorf("P14.7: mode 1: %v, want %v", got, want)
	}
	n := dir(entry("f", program("1")), entry("l", link("m")))
	l = w.lay("y", deep(n, "dir out", "link out/l m", "file out/f 1", "exec out/f"))
	got = w.comes(l)[0]
	if want := (api.Object{Label: w.outLabel(l, "out"), Ark: arkFor(n), Ca: api.BySource}); fmt.Sprint(got) != fmt.Sprint(want) {
		t.Errorf("P14.7: mode 1: %v, want %v", got, want)
	}
	if len(w.s.Mades()) > 0 {
		t.Error("P14.7: mode 1: there are mades")
	}
	l = w.lay("z", deep(program("abc"), "file out abc", "exec out"))
	w.comes(l)
	for what, r := range map[string]api.Recipe{
		"another sum":                   flat("abc", "file out abd"),
		"executable":                    flat("abc", "file out abc", "exec out"),
		"a directory":                   flat("abc", "dir out", "file out/abc abc"),
		"a link":                        flat("abc", "link out abc"),
		"a directory, no bytes":         flat("", "dir out"),
		"a link, no bytes":              flat("", "link out x"),
		"the sum of the archive":        flat(string(arkFor(file("abc"))), "file out abc"),
		"another tree":                  deep(n, "dir out", "link out/l m", "file out/f 1"),
		"another tree's kind":           deep(file("x"), "link out x"),
		"the sum of the bytes":          asSum(deep(file("abc"), "file out abc"), "abc"),
		"a mention":                     from(flat(part(own), "file out "+part(own)), own),
		"a mention, deep":               from(deep(file(part(own)), "file out "+part(own)), own),
		"a mention in an entry's name":  from(deep(dir(entry(part(own), dir())), "dir out", "dir out/"+part(own)), own),
		"a mention, and another sum":    from(flat("abc", "file out "+part(own)), own),
		"a mention of what it leads to": from(deep(link(part(own)), "link out "+part(own)), own),
	} {
		w.notMade("P14.7: mode 1: "+what, w.lay("bad", r))
	}
	// No mention of what is not among the candidates.
	w.comes(w.lay("free", flat(part(own), "file out "+part(own))))
	// Its own label is a candidate. Its hash part can't be in what it is made of: but it may be hidden from the sum by nothing.
	self := w.lay("self", flat("abc", "file out ${out}"))
	w.notMade("P14.7: mode 1: itself", self)
}

func asSum(r api.Recipe, data string) api.Recipe {
	r.Outputs[0].Sum = hexOf([]byte(data))
	return r
}

// Mode 1: an output that is on the shelf is made, whatever it is; and one of another name is a clash.
func TestFixedThere(t *testing.T) {
	w := newWorld(t)
	l := w.lay("x", flat("abc", "file out abd"))
	there := guest(w.outLabel(l, "out"), file("other"))
	w.put(there)
	was := markOf(w)
	if got := w.comes(l)[0]; fmt.Sprint(got) != fmt.Sprint(there) {
		t.Errorf("P14.7: 1: %v", got)
	}
	unchanged(t, "P14.7: 1", w, was)
	l = w.lay("y", flat("abc", "file out abc"))
	clash := w.outLabel(l, "out")
	clash.Name = "other"
	w.put(guest(clash, file("x")))
	b := bothOn(t, w.v.Disk(), 1<<24)
	b.make(wants(l), 2)
	w.refuse("P14.7: 6: a clash", api.ErrClash, l, 0, []api.Label{l}, want(l))
}
