package depot

import (
	"bytes"
	"fmt"
	"math/rand/v2"
	"slices"
	"strings"
	"testing"

	"graft/api"
	"graft/card"
	"graft/label"
	"graft/press"
)

// Depots by chance, right and spoilt: every call is held against the plain reading, journals byte by byte.

type chance struct {
	source  *rand.Rand
	objects []api.Object
	keys    []api.Key
}

func newChance(source *rand.Rand) *chance {
	c := &chance{source: source, keys: []api.Key{home, away, keyOf("k", "t"), keyOf("x", "x")}}
	c.objects = c.some()
	return c
}

// some is objects of all kinds, most of them right: references lead to others of them, or nowhere.
func (c *chance) some() []api.Object {
	guests := []api.Label{la, lb, lc, ld, numbered(1, "e"), numbered(2, "f")}
	var owns []api.Object
	for i := range 1 + c.source.IntN(3) {
		owns = append(owns, ownText(fmt.Sprint("t", i), pick(c.source, "x", "y"), c.few(labelsIn(owns))...))
	}
	owns = append(owns, ownFlat("f", pick(c.source, "x", "y")), ownTree("d", pick(c.source, dir(), fileNode("x"), program("x"))))
	owns = append(owns, c.ring(labelsIn(owns))...)
	out := slices.Clone(owns)
	for _, l := range guests[:1+c.source.IntN(6)] {
		o := holds(l, pick(c.source, "x", "y", part(la), part(owns[0].Label)), c.few(append(slices.Clone(guests), labelsIn(owns)...))...)
		if c.source.IntN(4) == 0 {
			o = madeBy(o, pick(c.source, guests...))
		}
		out = append(out, o)
	}
	for i := range out {
		if c.source.IntN(25) == 0 {
			out[i] = c.wrong(out[i], guests)
		}
	}
	return slices.CompactFunc(slices.SortedFunc(slices.Values(out), func(a, b api.Object) int { return label.Compare(a.Label, b.Label) }), func(a, b api.Object) bool { return a.Label.Hash == b.Label.Hash })
}

// ring is objects that are called after one group, and may refer to others.
func (c *chance) ring(others []api.Label) []api.Object {
	drafts := ringOf(1+c.source.IntN(3), func(i int) string { return pick(c.source, "n", "m") + fmt.Sprint(i%3) })
	labels := labelsIn(drafts)
	for i := range drafts {
		drafts[i].Refs = label.Sort(append(drafts[i].Refs, c.few(append(slices.Clone(others), labels...))...))
	}
	for i, o := range drafts {
		for _, ref := range drafts[i].Refs {
			if !slices.Contains(append(slices.Clone(others), labels...), ref) {
				drafts[i] = referring(o) // names are by chance, so that a ring may be open
			}
		}
	}
	return ownGroup(drafts...)
}

// wrong is an own object that is not what its label says, or a guest with a label that it should not have.
func (c *chance) wrong(o api.Object, guests []api.Label) api.Object {
	switch c.source.IntN(5) {
	case 0:
		return as(o, api.Ca(c.source.IntN(5)))
	case 1:
		return madeBy(o, pick(c.source, guests...))
	case 2:
		return referring(o, append(slices.Clone(o.Refs), pick(c.source, guests...))...)
	case 3:
		o.Ark = pick(c.source, file("z"), arkOf(program("x")), arkOf(dir()))
	case 4:
		o.Label.Name = pick(c.source, "a", "b", "n0")
	}
	return o
}

func (c *chance) few(labels []api.Label) []api.Label {
	var out []api.Label
	for range c.source.IntN(3) {
		if len(labels) > 0 {
			out = append(out, pick(c.source, labels...))
		}
	}
	return out
}

func (c *chance) someKeys() []api.Key {
	var out []api.Key
	for range c.source.IntN(3) {
		out = append(out, pick(c.source, c.keys...))
	}
	return out
}

func (c *chance) labels() []api.Label { return labelsIn(c.objects) }

// shelved is those of objects that may be on a shelf together, beside others that are left out by chance.
func (c *chance) shelved(objects []api.Object) []api.Object {
	out := slices.DeleteFunc(slices.Clone(objects), func(api.Object) bool { return c.source.IntN(3) == 0 })
	for {
		labels := labelsIn(out)
		left := slices.DeleteFunc(slices.Clone(out), func(o api.Object) bool {
			return slices.ContainsFunc(o.Refs, func(l api.Label) bool { return !slices.Contains(labels, l) })
		})
		if len(left) == len(out) {
			return out
		}
		out = left
	}
}

// depot is some of the objects as files, signed by some keys.
func (c *chance) depot() []api.DepotFile {
	files := []api.DepotFile{ownCard}
	for _, o := range c.objects {
		if c.source.IntN(12) == 0 {
			continue
		}
		data, tail := packed(o.Ark, pick(c.source, "none", "gzip"))
		x, e := card.Tells(o, arkName(data, tail), map[string]string{".ark": "none", ".ark.gz": "gzip"}[tail], data)
		if e != api.OK {
			panic("no card")
		}
		x = signedBy(x, pick(c.source, append(c.someKeys(), home)...))
		files = with(with(files, x.Url, data), cardOf(o.Label), cardText(x))
	}
	return files
}

// spoil does something to a depot's files.
func (c *chance) spoil(files []api.DepotFile) []api.DepotFile {
	if len(files) == 0 {
		return files
	}
	f := pick(c.source, files...)
	if c.source.IntN(3) > 0 { // depot.card seldom
		f = pick(c.source, append(without(files, "depot.card"), f)...)
	}
	other := pick(c.source, files...)
	switch c.source.IntN(12) {
	case 0:
		return without(files, f.Name)
	case 1:
		if len(f.Data) > 0 {
			return with(files, f.Name, spoil(f.Data, c.source.IntN(len(f.Data))))
		}
	case 2:
		return with(files, f.Name, other.Data)
	case 3:
		return with(files, pick(c.source, "", "note", "x", "depot.card", cardOf(named(9, "")), strings.ToUpper(f.Name)), pick(c.source, nil, f.Data, file("x")))
	case 4:
		if c.source.IntN(4) == 0 {
			return append(copied(files), api.DepotFile{Name: f.Name, Data: other.Data})
		}
	case 5:
		return with(files, f.Name, press.Gzip(f.Data))
	case 6:
		return with(files, f.Name, f.Data[:c.source.IntN(len(f.Data)+1)])
	case 7:
		return with(files, pick(c.source, files...).Name, f.Data)
	default:
		return c.spoilCard(files)
	}
	return files
}

// spoilCard changes a field of a card, and signs it by some keys.
func (c *chance) spoilCard(files []api.DepotFile) []api.DepotFile {
	f := pick(c.source, files...)
	x, e, _ := card.Read(string(f.Data))
	if e != api.OK {
		return files
	}
	other := pick(c.source, files...)
	o := pick(c.source, c.objects...)
	switch c.source.IntN(10) {
	case 0:
		x.Label = textOf(o.Label)
	case 1:
		x.Url = pick(c.source, "x", "ark/x", cardOf(la), x.Url+".gz")
	case 2:
		x.Ca = pick(c.source, "", "text", "source", "group", "flat")
	case 3:
		x.Maker = pick(c.source, "", baseOf(o.Label))
	case 4:
		x.Refs = basesOf(append(plainRefs(x), o.Label)...)
	case 5:
		x.Refs = basesOf(c.few(c.labels())...)
	case 6:
		x.Press, x.ArkSize = "gzip", max(x.ArkSize+pick(c.source, -1, 1, 8), 0)
	case 7:
		x.Press, x.FileSum, x.FileSize, x.ArkSum, x.ArkSize = "none", sumOf(other.Data), len(other.Data), sumOf(other.Data), len(other.Data)
		x.Url = "x"
		files = with(files, "x", other.Data)
	case 8:
		packed := pick(c.source, press.Gzip(other.Data), zipped(other.Data, 9, "n"), append(press.Gzip(nil), press.Gzip(other.Data)...), []byte("no gzip"))
		x.Press, x.FileSum, x.FileSize, x.ArkSum, x.ArkSize, x.Url = "gzip", sumOf(packed), len(packed), sumOf(other.Data), len(other.Data), "zip"
		files = with(files, "zip", packed)
	case 9:
		x.Marks = nil
	}
	if e, _ := card.Check(x); e != api.OK {
		return files
	}
	if c.source.IntN(2) == 0 {
		x = signedBy(x, c.someKeys()...)
	}
	return with(files, f.Name, cardText(x))
}

func TestScripts(t *testing.T) {
	source := sourceOf(1)
	seen := map[string]int{}
	for i := range 3000 {
		c := newChance(source)
		files := c.depot()
		for range []int{0, 1, 1, 2, 5}[i%5] {
			files = c.spoil(files)
		}
		source.Shuffle(len(files), func(i, k int) { files[i], files[k] = files[k], files[i] })
		c.script(t, files, seen)
	}
	for _, x := range []string{
		"push 0", "push 7", "push 170", "push 171", "push new", "pull 0", "pull 7", "pull 170", "pull 103", "pull 171", "pull 73", "pull 156", "pull 121", "pull some", "pull many",
		"check 0", "check 7", "check 170", "check 103", "check 171", "check 73", "check 156", "lacks 0", "lacks 170", "lacks some", "prune 0", "prune 170", "prune less",
	} {
		if seen[x] < 10 {
			t.Errorf("%s: %d times", x, seen[x])
		}
	}
	t.Log(seen)
}

// script does all calls with a depot's files, on a store that has some of the objects.
func (c *chance) script(t *testing.T, files []api.DepotFile, seen map[string]int) {
	t.Helper()
	before := showFiles(files)
	labels := append(c.labels(), named(9, "x"))
	there := c.shelved(c.objects)
	if c.source.IntN(2) == 0 {
		there = nil
	}
	if c.source.IntN(8) == 0 {
		there = append(there, holds(numbered(77, "other"), "other"))
	}
	if c.source.IntN(20) == 0 {
		there = []api.Object{holds(api.Label{Hash: pick(c.source, c.objects...).Label.Hash, Name: "clash"}, "clash")}
	}
	b := newBoth(t, there...)
	for range 2 {
		roots := append(c.few(labels), pick(c.source, c.labels()...))
		keys := pick(c.source, nil, nil, c.someKeys())
		e, _ := checked(t, files, keys...)
		seen[fmt.Sprint("check ", e)]++
		lacking, e := lacked(t, files, roots...)
		seen[fmt.Sprint("lacks ", e)]++
		if len(lacking) > 0 {
			seen["lacks some"]++
		}
		few, e := pruned(t, files, roots...)
		seen[fmt.Sprint("prune ", e)]++
		if e == api.OK && len(few) < len(files) {
			seen["prune less"]++
		}
		onShelf := append(slices.DeleteFunc(slices.Clone(roots), func(l api.Label) bool { return !b.s.Has(l) && c.source.IntN(10) > 0 }), c.few(b.s.List())...)
		pushed, e, _ := b.push(files, onShelf, keys, pick(c.source, "none", "gzip"))
		seen[fmt.Sprint("push ", e)]++
		if len(pushed) > len(files) {
			seen["push new"]++
		}
		c.pull(b, files, few, roots, keys, lacking, seen)
	}
	if showFiles(files) != before {
		t.Fatal("what was handed in has changed")
	}
}

// pull does a Pull, out of the pruned depot too, and holds P17.11 and P17.12 of it.
func (c *chance) pull(b *both, files, few []api.DepotFile, roots []api.Label, keys []api.Key, lacking []string, seen map[string]int) {
	b.t.Helper()
	again := bothOn(b.t, b.v.Disk(), wide)
	listed := len(b.s.List())
	got, e, l := b.pull(files, roots, keys...)
	seen[fmt.Sprint("pull ", e)]++
	if len(got) > 0 {
		seen["pull some"]++
	}
	if len(got) > 3 && listed > 0 {
		seen["pull many"]++
	}
	if few != nil {
		if more, f, m := again.pull(few, roots, keys...); !slices.Equal(more, got) || f != e || m != l || tellShelf(again.s) != tellShelf(b.s) {
			b.t.Fatalf("P17.12: %s, %d, %s, want %s, %d, %s", showLabels(more), f, showLabel(m), showLabels(got), e, showLabel(l))
		}
		if _, bad := plainFiles(files).good(l); e != api.OK && len(lacking) == 0 && l != (api.Label{}) && bad != api.OK {
			b.t.Fatalf("P17.12: no good card for %s, and nothing lacks", showLabel(l))
		}
	}
	for _, l := range got {
		o, _ := b.s.Get(l)
		all := map[api.Label]api.Object{}
		for _, x := range b.s.List() {
			all[x], _ = b.s.Get(x)
		}
		if plainWrong(o, all, nil) {
			b.t.Fatalf("P17.11: %s is not what its label says", showLabel(l))
		}
	}
}

// Any bytes as a depot's files: every call ends.
func TestAnyBytes(t *testing.T) {
	source := sourceOf(2)
	names := []string{"depot.card", cardOf(la), cardOf(lb), "ark/x.ark", "x", ""}
	base := depotOf(two()...)
	for range 3000 {
		files := []api.DepotFile{ownCard}
		for range source.IntN(6) {
			data := make([]byte, source.IntN(300))
			for i := range data {
				data[i] = byte(source.IntN(256))
			}
			if source.IntN(2) == 0 {
				data = bytes.Clone(pick(source, base...).Data)
				for range source.IntN(3) {
					data[source.IntN(len(data))] = byte(source.IntN(256))
				}
			}
			files = append(files, api.DepotFile{Name: pick(source, append(names, pick(source, base...).Name)...), Data: data})
		}
		checked(t, files)
		checked(t, files, home)
		lacked(t, files, la, lb)
		pruned(t, files, la)
		newBoth(t).pull(files, []api.Label{la, lb})
		newBoth(t, two()...).push(files, []api.Label{la}, nil, "none")
	}
}
