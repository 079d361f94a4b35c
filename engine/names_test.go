package engine

import (
	"bytes"
	"fmt"
	"math/rand/v2"
	"slices"
	"strings"
	"testing"

	"graft/api"
	"graft/label"
)

// closureOf is guests by a plan: for each word a name, a colon, and what it holds: each letter that is a name is a mention of the
// guest with that name, all others are plain. The labels are by chance.
func closureOf(source *rand.Rand, plan string) ([]api.Object, map[string]api.Label) {
	labels := map[string]api.Label{}
	for _, word := range strings.Fields(plan) {
		name, _, _ := strings.Cut(word, ":")
		labels[name] = numbered(source.Int(), name[:1])
	}
	var out []api.Object
	for _, word := range strings.Fields(plan) {
		name, holds, _ := strings.Cut(word, ":")
		out = append(out, planned(labels, name, holds))
	}
	return out, labels
}

// planned is the guest of one word of a plan.
func planned(labels map[string]api.Label, name, holds string) api.Object {
	var text strings.Builder
	var refs []api.Label
	for _, x := range strings.Split(holds, ",") {
		if l, is := labels[x]; is {
			text.WriteString(part(l))
			refs = append(refs, l)
		} else {
			text.WriteString(x)
		}
	}
	return holding(labels[name], text.String(), refs...)
}

// plans is closures of many shapes. A name's first letter is the object's name; what follows tells guests of one name apart.
var plans = []string{
	"a:hi",
	"a:",
	"a:a",
	"a:a,x,a,a",
	"a:see,b b:hi",
	"a:b,c b:c c:d d:hi",
	"a:b,c b:d c:d d:hi,d",
	"a:b b:a",
	"a:b,a b:a,b,x",
	"a:b b:c c:a",
	"a:b,c b:c,a c:b,a,c",
	"a:b b:a,c c:d d:c,e e:e",
	"a:b b:c,d c:a d:e e:d,f f:g,f g:hi",
	"a1:hi a2:hi",
	"b:a1,a2 a1:hi a2:hi",
	"b:a1,x,a2,a1 a1:c1 a2:c2 c1:hi c2:hi",
	"b1:a1 a1:b1 b2:a2 a2:b2",
	"c:a1,b2 b1:a1 a1:b1 b2:a2 a2:b2",
	"a1:a1 a2:a2 b:a1,a2",
	"x:a1,a2,a3 a1:m1 a2:m2 a3:m1 m1:m1,z m2:m2,z z:hi",
	"a:b,b,b b:c,c c:hi,hi",
	"a:b,c,d,e,f,g b:x c:x d:x e:x f:x g:y x:1 y:2",
	"a:b b:c c:d d:e e:f f:g g:a",
	"a1:b b:a1 a2:b",
	"a1:b,a1 b:a1 c:b,a1 d:c,b,a1 e:b,a1",
	"a1:b,c b:a1 c:d d:c a2:b,c e:b,c",
}

// Rings, chains, chains of rings, guests that are renamed to one, references that become fewer: held against the plain reading.
func TestShapes(t *testing.T) {
	source := sourceOf(3)
	for _, plan := range plans {
		objects, _ := closureOf(source, plan)
		for range 3 {
			b := newBoth(t, objects...)
			roots := labelsIn(objects)
			source.Shuffle(len(roots), func(i, k int) { roots[i], roots[k] = roots[k], roots[i] })
			out := b.rewrite(pick(source, 1, 2, 31, 32, 1000), roots...)
			if out.Err != api.OK || len(out.Map) != len(objects) {
				t.Fatalf("P15.5: %s: %s", plan, show(out))
			}
			homomorphic(t, plan, b.world, objects, tableOf(out.Map))
			// Root by root, in any order: the same table.
			b = newBoth(t, objects...)
			for _, root := range roots {
				some := b.rewrite(7, root)
				for _, x := range some.Map {
					if x.New != tableOf(out.Map)[x.Old] {
						t.Fatalf("W4: %s: %s from another root", plan, showLabel(x.New))
					}
				}
			}
		}
	}
}

// homomorphic holds W3.
func homomorphic(t *testing.T, what string, w *world, objects []api.Object, r map[api.Label]api.Label) {
	t.Helper()
	contents := map[api.Label]string{}
	for _, o := range objects {
		x, e := w.e.Read(r[o.Label])
		want := string(o.Ark)
		var refs []api.Label
		for _, p := range objects {
			want = strings.ReplaceAll(want, part(p.Label), part(r[p.Label]))
		}
		for _, ref := range o.Refs {
			refs = append(refs, r[ref])
		}
		if e != api.OK || string(x.Ark) != want || !slices.Equal(x.Refs, label.Sort(refs)) || x.Ca != api.ByGroup || x.Maker != "" || x.Label.Name != o.Label.Name {
			t.Fatalf("W3: %s: %s, want %q", what, showObject(x), want)
		}
		if had, is := contents[x.Label]; is && had != want {
			t.Fatalf("W3: %s: two contents of one label", what)
		}
		contents[x.Label] = want
	}
}

// W4: the same closure under other hash parts, in another order, with makers, beside other things, renamed in parts: the same labels.
func TestContentAlone(t *testing.T) {
	for _, plan := range plans {
		news := map[string]api.Label{}
		for i := range 5 {
			source := sourceOf(uint64(100 + i))
			objects, labels := closureOf(source, plan)
			source.Shuffle(len(objects), func(i, k int) { objects[i], objects[k] = objects[k], objects[i] })
			w := newWorld(t)
			if i > 1 {
				w.take(holding(numbered(-1, "beside"), "beside"), holding(numbered(-2, "a"), "other"))
				w.text("own", "own")
				w.rename(numbered(-1, "beside"))
			}
			for k := range objects {
				if i%2 == 1 {
					objects[k].Maker = textOf(numbered(source.Int(), "maker"))
				}
			}
			w.take(objects...)
			if i == 3 {
				w.rename(objects[0].Label)
			}
			r := w.rename(labelsIn(objects)...)
			for name, l := range labels {
				if i > 0 && news[name] != r[l] {
					t.Fatalf("W4: %s: %s is %s, and %s elsewhere", plan, name, showLabel(news[name]), showLabel(r[l]))
				}
				news[name] = r[l]
			}
			homomorphic(t, plan, w, objects, r)
		}
	}
}

// W4 of closures by chance: each guest gets another hash part, which is carried over at its mentions.
func TestContentAloneBy(t *testing.T) {
	source := sourceOf(6)
	well := 0
	for range 400 {
		c := &chance{source: source, labels: labelsBy(source, 1+source.IntN(8))}
		own := ownText("own", "own")
		c.owns = []api.Label{own.Label}
		objects := c.guests()
		one, other := newWorld(t), newWorld(t)
		one.lay(own)
		other.lay(own)
		to := map[api.Label]api.Label{own.Label: own.Label}
		for _, l := range c.labels {
			to[l] = numbered(source.Int(), l.Name)
		}
		var carried []api.Object
		for _, o := range objects {
			x := api.Object{Label: to[o.Label], Ark: bytes.Clone(o.Ark)}
			for _, m := range plainMentions(o.Ark, slices.Concat(c.labels, c.owns)) {
				copy(x.Ark[m.at:], part(to[m.of]))
			}
			for _, ref := range o.Refs {
				x.Refs = append(x.Refs, to[ref])
			}
			x.Refs = label.Sort(x.Refs)
			carried = append(carried, x)
		}
		one.take(objects...)
		source.Shuffle(len(carried), func(i, k int) { carried[i], carried[k] = carried[k], carried[i] })
		if other.e.Import(carried, 9).Err != api.OK {
			continue // a name, or two mentions that overlap, were written over
		}
		for _, l := range c.labels {
			a, b := one.e.Rewrite([]api.Label{l}, 7), other.e.Rewrite([]api.Label{to[l]}, 32)
			if a.Err != api.OK || b.Err != api.OK {
				continue
			}
			well++
			r, q := tableOf(a.Map), tableOf(b.Map)
			for old, to := range to {
				if r[old] != q[to] {
					t.Fatalf("W4: %s is %s, and %s elsewhere", showLabel(old), showLabel(r[old]), showLabel(q[to]))
				}
			}
		}
	}
	if well < 300 {
		t.Errorf("only %d go well", well)
	}
}

// Unlike content gets unlike labels: each of these differs from all others in one thing.
func TestUnlikeContent(t *testing.T) {
	own, other := ownText("o", "own"), ownText("p", "own")
	seen := map[api.Label]string{}
	see := func(what string, l api.Label) {
		t.Helper()
		if had, is := seen[l]; is {
			t.Errorf("%s and %s have one label", what, had)
		}
		seen[l] = what
	}
	x := func(l api.Label) string { return part(l) }
	for what, o := range map[string]api.Object{
		"hi": holding(la, "hi"), "ho": holding(la, "ho"), "executable": guest(la, arkOf(program("hi"))), "a link": guest(la, arkOf(link("hi"))),
		"itself": holding(la, x(la), la), "itself twice": holding(la, x(la)+x(la), la), "itself elsewhere": holding(la, "x"+x(la), la), "zeros": holding(la, string(make([]byte, 32))),
		"own": holding(la, x(own.Label), own.Label), "another own": holding(la, x(other.Label), other.Label), "own twice": holding(la, x(own.Label)+x(own.Label), own.Label),
		"own and itself": holding(la, x(own.Label)+x(la), own.Label, la), "itself and own": holding(la, x(la)+x(own.Label), own.Label, la),
		"another name": holding(lb, "hi"), "another name and itself": holding(lb, x(lb), lb),
	} {
		w := newWorld(t)
		w.lay(own, other)
		w.take(o)
		see(what, w.rename(o.Label)[o.Label])
	}
	// What is mentioned as plain bytes, and what is referred to.
	w := newWorld(t)
	w.lay(own)
	w.take(holding(la, x(own.Label)))
	see("own, not referred to", w.rename(la)[la])
	// An unrolled ring has another name.
	w = newWorld(t, holding(la, x(lb), lb), holding(lb, x(la), la))
	ring := w.rename(la)
	a2 := named(9, "a")
	w.take(holding(a2, x(lb), lb))
	see("in a ring", ring[la])
	see("ahead of a ring", w.rename(a2)[a2])
	// In which order names stand in a ring has a part in it; which label is the least has none.
	w = newWorld(t, holding(la, x(lb), lb), holding(lb, x(lc), lc), holding(lc, x(la), la))
	see("a b c", w.rename(la)[la])
	w = newWorld(t, holding(la, x(lc), lc), holding(lc, x(lb), lb), holding(lb, x(la), la))
	see("a c b", w.rename(la)[la])
}

// Groups of MaxGroup members, all of which mention one another, and rings of so many; one more is told by TestDefectsAlone.
func TestGreatestGroup(t *testing.T) {
	objects := side('5').ring(api.MaxGroup, func(i int) string { return fmt.Sprint("n", i) })
	b := newBoth(t, objects...)
	if out := b.rewrite(100, objects[3].Label); out.Err != api.OK || len(out.Map) != api.MaxGroup {
		t.Fatalf("P15.5: %s", show(out))
	}
	var all []api.Label
	for i := range api.MaxGroup {
		all = append(all, numbered(i, fmt.Sprint("m", i)))
	}
	text := strings.Join(partsOf(all), "-")
	objects = nil
	for i, l := range all {
		objects = append(objects, holding(l, text[33*(i%2):]+fmt.Sprint(i), all...))
	}
	for i := 1; i < len(objects); i += 2 {
		objects[i].Refs = sorted(all[1:]...)
	}
	b = newBoth(t, objects...)
	if out := b.rewrite(1000, all[9]); out.Err != api.OK || len(out.Map) != api.MaxGroup {
		t.Fatalf("P15.5: %s", show(out))
	}
	// Two groups of 64 beside one another, and a chain of 65 that is none.
	first := side('2').ring(api.MaxGroup, func(i int) string { return fmt.Sprint("n", i) })
	second := side('7').ring(api.MaxGroup, func(i int) string { return fmt.Sprint("n", i) })
	second[0] = holding(second[0].Label, part(second[0].Refs[0])+part(first[0].Label), second[0].Refs[0], first[0].Label)
	w := newWorld(t, slices.Concat(first, second)...)
	if r := w.rename(second[1].Label); len(r) != 2*api.MaxGroup {
		t.Errorf("P15.5: %d", len(r))
	}
	chain := side('6').ring(80, func(i int) string { return "same" })
	last := chain[79].Label
	chain[79] = holding(last, "end")
	w = newWorld(t, chain...)
	if r := w.rename(chain[0].Label); len(r) != 80 || w.bytes(r[last]) != "end" {
		t.Errorf("P15.5: %d", len(r))
	}
	// 65 own objects are no group of guests.
	if out := w.e.Rewrite(labelsIn(chain), 9); out.Err != api.OK {
		t.Errorf("P15.5: %s", show(out))
	}
}

// Groups of own objects are not asked for: by hand there may be great ones, and twins.
func TestOwnGroups(t *testing.T) {
	for _, ring := range [][]api.Object{side('3').ring(65, func(i int) string { return fmt.Sprint("n", i) }), side('3').ring(4, func(i int) string { return "same" })} {
		for i := range ring {
			ring[i].Ca = api.ByGroup
		}
		b := bothOn(t, api.Disk{}, wide)
		b.lay(ring...)
		b.take([]api.Object{holding(la, part(ring[0].Label), ring[0].Label)}, 3)
		out := b.alike("P15.5", b.e.Rewrite([]api.Label{la}, 100), b.plain.rewrite([]api.Label{la}, 100))
		if out.Err != api.OK || len(out.Map) != len(ring)+1 || out.Map[1].Old != out.Map[1].New {
			t.Errorf("P15.5: %s", show(out))
		}
	}
}

// P15.5, 7: the first of which there is another one, and the first such other one.
func TestTwinsDefect(t *testing.T) {
	// In order a0 < b1 < c2 < b3 < a4: a0 has a twin, a4; b1 has one, b3.
	var l []api.Label
	for i, name := range []string{"a", "b", "c", "b", "a", "b"} {
		l = append(l, digited(fmt.Sprint(i+1)+part(numbered(i, ""))[1:], name))
	}
	ring := func(members ...int) []api.Object {
		var out []api.Object
		for i, m := range members {
			next := l[members[(i+1)%len(members)]]
			out = append(out, holding(l[m], part(next), next))
		}
		return out
	}
	for _, x := range []struct {
		rings [][]int
		first int
		other int
	}{
		{[][]int{{0, 1, 2, 3, 4}}, 0, 4}, {[][]int{{3, 1, 2}}, 1, 3}, {[][]int{{5, 3, 1}}, 1, 3}, {[][]int{{5, 3}}, 3, 5}, {[][]int{{0, 2}, {1, 3}}, 1, 3}, {[][]int{{0, 4}, {1, 3, 5}}, 0, 4},
		{[][]int{{1, 2}, {3, 5}}, 3, 5},
	} {
		var objects []api.Object
		for _, members := range x.rings {
			objects = append(objects, ring(members...)...)
		}
		w := newWorld(t, objects...)
		roots := labelsIn(objects)
		slices.Reverse(roots)
		w.denies(fmt.Sprint("P15.5, 7: ", x.rings), api.Outcome{Err: api.ErrTwins, At: l[x.first], Other: l[x.other]}, roots...)
	}
	// Of one name in two groups there are no twins.
	w := newWorld(t, slices.Concat(ring(0, 1), ring(3, 4))...)
	w.rename(l[0], l[3])
}

// P15.5, 6: the first label of all groups that are too great, and how many its own group has.
func TestManyDefect(t *testing.T) {
	small := side('2').ring(64, func(i int) string { return fmt.Sprint("n", i) })
	for _, x := range [][2]int{{65, 70}, {70, 65}, {66, 66}} {
		one, two := side('3').ring(x[0], func(i int) string { return "n" }), side('4').ring(x[1], func(i int) string { return fmt.Sprint("n", i) })
		w := newWorld(t, slices.Concat(small, two, one)...)
		w.denies("P15.5, 6", api.Outcome{Err: api.ErrMany, At: labelsIn(one)[0], Place: x[0]}, two[0].Label, one[0].Label, small[0].Label)
	}
	// A woven one whose labels lie among those of another.
	var objects []api.Object
	var l []api.Label
	for i := range 134 {
		l = append(l, numbered(i, fmt.Sprint("n", i)))
	}
	for i := range 134 {
		next := l[(i+2)%134]
		objects = append(objects, holding(l[i], part(next), next))
	}
	w := newWorld(t, objects...)
	w.denies("P15.5, 6", api.Outcome{Err: api.ErrMany, At: sorted(l...)[0], Place: 67}, l[0], l[1])
}

// MaxClosure objects, and one more: a long chain, and so many that 4096 hash parts are looked for.
func TestGreatestClosure(t *testing.T) {
	var objects []api.Object
	next := api.Label{}
	for i := range api.MaxClosure {
		l := numbered(i, "n")
		if i == 0 {
			objects = append(objects, holding(l, "end"))
		} else {
			objects = append(objects, holding(l, part(next), next))
		}
		next = l
	}
	w := worldOf(t, api.Disk{}, api.MaxRoom)
	w.take(objects...)
	w.take(holding(la, part(next), next))
	w.denies("P15.5, 2", api.Outcome{Err: api.ErrMany, Place: api.MaxClosure + 1}, la)
	w.drop(la)
	out := w.e.Rewrite([]api.Label{next}, 1<<10)
	if out.Err != api.OK || len(out.Map) != api.MaxClosure || w.e.Shelf().Stat().Objects != api.MaxObjects {
		t.Fatalf("P15.5: %d, %d", out.Err, len(out.Map))
	}
	homomorphicChain(t, w, objects, tableOf(out.Map))
	w.refuses("W5", func() api.Outcome { return w.e.Rewrite([]api.Label{next}, 50) }, out)
	w.denies("P15.5, 2: old and new ones", api.Outcome{Err: api.ErrMany, Place: api.MaxObjects}, next, tableOf(out.Map)[next])
}

func homomorphicChain(t *testing.T, w *world, objects []api.Object, r map[api.Label]api.Label) {
	t.Helper()
	for _, o := range objects[1:] {
		if w.bytes(r[o.Label]) != part(r[o.Refs[0]]) {
			t.Fatalf("W3: %s", showLabel(o.Label))
		}
	}
}

// An archive of MaxArk bytes that many objects share, and 256 references.
func TestGreatObjects(t *testing.T) {
	labels := many(256)
	text := strings.Join(partsOf(labels), "")
	big := text + strings.Repeat("x", api.MaxArk-112-len(text))
	objects := guests(labels)
	for i := range objects {
		objects[i].Ark = file(fmt.Sprint(i))
	}
	roots := []api.Label{named(11, "r"), named(12, "s"), named(13, "r")}
	for _, l := range roots {
		objects = append(objects, guest(l, file(big), labels...))
	}
	w := newWorld(t, objects...)
	r := w.rename(roots...)
	if r[roots[0]] != r[roots[2]] || r[roots[0]] == r[roots[1]] || len(w.refs(r[roots[1]])) != 256 {
		t.Errorf("P15.5: %v", len(r))
	}
	o, _ := w.e.Read(r[roots[1]])
	want := file(big)
	for _, l := range labels {
		want = bytes.Replace(want, []byte(part(l)), []byte(part(r[l])), 1)
	}
	if !bytes.Equal(o.Ark, want) {
		t.Error("P15.5: another archive")
	}
	// References that become fewer: all 256 are renamed to one.
	for i := range labels {
		objects[i].Ark = file("one")
	}
	w = newWorld(t, objects...)
	r = w.rename(roots...)
	if !slices.Equal(w.refs(r[roots[0]]), []api.Label{r[labels[7]]}) {
		t.Errorf("P15.5: %s", showLabels(w.refs(r[roots[0]])))
	}
}
