package engine

import (
	"fmt"
	"math/rand/v2"
	"slices"
	"strings"
	"testing"

	"graft/api"
	"graft/label"
)

// Stores by chance: every call is held against the plain reading, journals byte by byte.

// chance makes objects.
type chance struct {
	source *rand.Rand
	labels []api.Label // that guests may have
	owns   []api.Label // that are on the shelf
	learnt []string    // hash parts that are going to be, or are
	wrong  int         // of so many objects one has references that are not its mentions; 0: none
}

// labelsBy is unlike hash parts, with few names: some of them overlap themselves or one another.
func labelsBy(source *rand.Rand, n int) []api.Label {
	names := []string{"a", "b", "c", "d", "a", "b", "x.y", "long-name"}
	hashes := []api.Label{named(0, ""), named(7, ""), digited("aaaaaaaaaaaaaaaabbbbbbbbbbbbbbbb", ""), digited("bbbbbbbbbbbbbbbbcccccccccccccccc", ""),
		digited("c1c1c1c1c1c1c1c1c1c1c1c1c1c1c1c1", "")}
	for i := range 12 {
		hashes = append(hashes, numbered(i, ""))
	}
	source.Shuffle(len(hashes), func(i, k int) { hashes[i], hashes[k] = hashes[k], hashes[i] })
	for i := range hashes[:n] {
		hashes[i].Name = pick(source, names...)
	}
	return hashes[:n]
}

// text is some bytes, with hash parts among them.
func (c *chance) text() string {
	var out strings.Builder
	for range c.source.IntN(4) {
		switch c.source.IntN(8) {
		case 0:
			out.WriteString(pick(c.source, "plain", "", " ", "\x00", "aaaaaaaaaaaaaaaa", "0", "cccccccccccccccc", "/"))
		case 1:
			if len(c.owns) > 0 {
				out.WriteString(part(pick(c.source, c.owns...)))
			}
		case 2:
			if len(c.learnt) > 0 && c.source.IntN(4) == 0 {
				out.WriteString(pick(c.source, c.learnt...))
			}
		case 3:
			out.WriteString(part(pick(c.source, c.labels...))[:c.source.IntN(32)])
		default:
			out.WriteString(part(pick(c.source, c.labels...)))
		}
	}
	return out.String()
}

func (c *chance) node(deep int) api.Node {
	switch n := c.source.IntN(9); {
	case n == 0:
		return program(c.text())
	case n == 1:
		return link("l" + strings.ReplaceAll(c.text(), "\x00", ""))
	case n < 5 && deep < 3:
		var list []api.Entry
		for i := range c.source.IntN(4) {
			name := fmt.Sprint(i)
			if c.source.IntN(12) == 0 {
				name += part(pick(c.source, c.labels...)) + pick(c.source, "", "x")
			}
			list = append(list, entry(name, c.node(deep+1)))
		}
		return dir(list...)
	}
	return fileNode(c.text())
}

// refs is the labels that bytes mention, most often.
func (c *chance) refs(data []byte) []api.Label {
	var out []api.Label
	for _, m := range plainMentions(data, slices.Concat(c.labels, c.owns)) {
		out = append(out, m.of)
	}
	if c.wrong > 0 && c.source.IntN(c.wrong) == 0 {
		if c.source.IntN(2) == 0 && len(out) > 0 {
			return label.Sort(out[1:])
		}
		out = append(out, pick(c.source, c.labels...))
	}
	return label.Sort(out)
}

// guests is an object for each label.
func (c *chance) guests() []api.Object {
	var out []api.Object
	same := arkOf(c.node(0))
	for _, l := range c.labels {
		data := arkOf(c.node(0))
		if c.source.IntN(6) == 0 {
			data = same
		}
		o := api.Object{Label: l, Ark: data, Refs: c.refs(data)}
		if c.source.IntN(4) == 0 {
			o.Maker = textOf(pick(c.source, c.labels...))
		}
		out = append(out, o)
	}
	return out
}

// learn renames objects elsewhere, and keeps what they are called there.
func (c *chance) learn(t *testing.T, b *both, objects []api.Object) []api.Label {
	w := b.again(wide)
	if o := w.e.Import(objects, 8); o.Err != api.OK {
		return nil
	}
	var news []api.Label
	for _, l := range c.labels {
		for _, x := range w.e.Rewrite([]api.Label{l}, 8).Map {
			news = append(news, x.New)
			c.learnt = append(c.learnt, part(x.New))
		}
	}
	return news
}

func TestScripts(t *testing.T) {
	source := sourceOf(1)
	seen := map[string]int{}
	told := func(call string, o api.Outcome) {
		seen[fmt.Sprint(call, " ", o.Err)]++
		if o.Err == api.OK && call == "rewrite" && len(o.Map) > 2 {
			seen["great"]++
		}
	}
	for i := range 1200 {
		b := newBoth(t)
		c := &chance{source: source, labels: labelsBy(source, 1+source.IntN(8)), wrong: []int{0, 0, 12, 30}[i%4]}
		script(b, c, told)
	}
	for _, x := range []string{"import 0", "import 150", "import 8", "import 121", "text 0", "text 150", "text 151", "tree 0",
		"rewrite 0", "rewrite 7", "rewrite 151", "rewrite 152", "rewrite 153", "rewrite 72", "rewrite 121", "rewrite 154", "rewrite 155", "verify 0", "verify 7", "great"} {
		if seen[x] < 5 {
			t.Errorf("%s: %d times", x, seen[x])
		}
	}
	t.Log(seen)
}

func script(b *both, c *chance, told func(call string, o api.Outcome)) {
	chunkBy := func() int { return pick(c.source, 1, 2, 7, 31, 32, 33, 100, 1<<20, 1<<62) }
	for range c.source.IntN(3) {
		o := b.text(pick(c.source, "t", "u"), pick(c.source, "t", "text", "more"))
		c.owns = append(c.owns, o.At)
	}
	objects := c.guests()
	for _, l := range c.learn(b.t, b, objects) {
		if c.source.IntN(25) == 0 && !slices.ContainsFunc(c.labels, func(x api.Label) bool { return x.Hash == l.Hash }) {
			// A guest that comes with the hash part that another one is going to have.
			c.labels = append(c.labels, api.Label{Hash: l.Hash, Name: pick(c.source, l.Name, "z")})
		}
	}
	if c.source.IntN(3) > 0 {
		objects = c.guests() // with what was learnt
	}
	told("import", b.take(objects, chunkBy()))
	for range 3 + c.source.IntN(8) {
		switch c.source.IntN(12) {
		case 0:
			told("text", b.text(pick(c.source, "t", "a"), c.text(), c.some(c.owns, 2)...))
		case 1:
			told("text", b.text("r", "see "+strings.Join(partsOf(c.owns), " "), c.some(slices.Concat(c.owns, c.owns, c.labels[:1]), 2)...))
		case 2:
			told("tree", b.tree(pick(c.source, "t", "a"), c.node(0)))
		case 3:
			told("import", b.take(pickSome(c.source, c.guests()), chunkBy()))
		case 4:
			list := b.e.Shelf().List()
			if len(list) > 0 {
				b.step(api.Step{Kind: api.StepDrop, Label: pick(c.source, list...)})
			}
		case 5:
			c.restart(b, objects)
		default:
			list := slices.Concat(b.e.Shelf().List(), c.labels[:c.source.IntN(2)])
			told("rewrite", b.rewrite(chunkBy(), c.some(list, 3)...))
		}
		c.owns = slices.DeleteFunc(b.e.Shelf().List(), func(l api.Label) bool { return !isOwn(b.e.Shelf(), l) })
	}
	for _, l := range slices.Concat(b.e.Shelf().List(), c.labels) {
		out := b.verify(l, chunkBy())
		told("verify", out)
		if out.Err == api.ErrWrong {
			b.t.Fatalf("W6: %s", show(out))
		}
		b.lookup(l)
	}
}

// restart drops some guests, and imports them with other bytes.
func (c *chance) restart(b *both, objects []api.Object) {
	for _, o := range objects {
		if b.step(api.Step{Kind: api.StepDrop, Label: o.Label}) == api.OK {
			b.take([]api.Object{{Label: o.Label, Ark: file(pick(c.source, "other", "new", ""))}}, 4)
		}
	}
}

func partsOf(labels []api.Label) []string {
	var out []string
	for _, l := range labels {
		out = append(out, part(l))
	}
	return out
}

// some is a few of labels, some of them twice.
func (c *chance) some(list []api.Label, most int) []api.Label {
	var out []api.Label
	for range c.source.IntN(most + 1) {
		if len(list) > 0 {
			out = append(out, pick(c.source, list...))
		}
	}
	return out
}

func pickSome[T any](source *rand.Rand, list []T) []T {
	return slices.DeleteFunc(list, func(T) bool { return source.IntN(3) == 0 })
}
