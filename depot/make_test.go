package depot

import (
	"bytes"
	"fmt"
	"math/rand/v2"
	"slices"
	"strings"
	"testing"

	"graft/api"
	"graft/ark"
	"graft/card"
	"graft/digest"
	"graft/engine"
	"graft/journal"
	"graft/label"
	"graft/shelf"
)

// What the tests' stores and depots are made of, and what they tell.

const wide = 1 << 24 // a limit that no small store meets

func sourceOf(seed uint64) *rand.Rand { return rand.New(rand.NewPCG(seed, 17)) }

func pick[T any](source *rand.Rand, list ...T) T { return list[source.IntN(len(list))] }

// named is a label whose hash is twenty times a byte.
func named(b byte, name string) api.Label {
	l := api.Label{Name: name}
	for i := range l.Hash {
		l.Hash[i] = b
	}
	return l
}

// numbered is a label that is unlike all others of this kind, and in no order.
func numbered(i int, name string) api.Label {
	return api.Label{Hash: digest.Fold(digest.Of([]byte(fmt.Sprint(i)))), Name: name}
}

var la, lb, lc, ld = named(1, "a"), named(2, "b"), named(3, "c"), named(4, "d")

func part(l api.Label) string { return digest.Base32(l.Hash[:]) }

func textOf(l api.Label) string { return "/graft/store/" + baseOf(l) }

func baseOf(l api.Label) string { return part(l) + "-" + l.Name }

func cardOf(l api.Label) string { return part(l) + ".card" }

func sumOf(data []byte) string { return digest.Show(digest.Of(data), api.Form32) }

// arkName is how a file with these bytes is called that is no card.
func arkName(data []byte, tail string) string {
	sum := digest.Of(data)
	return "ark/" + digest.Base32(sum[:]) + tail
}

func fileNode(s string) api.Node { return api.Node{Kind: api.KindFile, Data: []byte(s)} }

func program(s string) api.Node { return api.Node{Kind: api.KindFile, Exec: true, Data: []byte(s)} }

func link(s string) api.Node { return api.Node{Kind: api.KindLink, Link: s} }

func dir(entries ...api.Entry) api.Node { return api.Node{Kind: api.KindDir, List: entries} }

func entry(name string, n api.Node) api.Entry { return api.Entry{Name: name, Node: n} }

func arkOf(n api.Node) []byte {
	b, e := ark.Print(n)
	if e != api.OK {
		panic("no archive")
	}
	return b
}

func file(texts ...string) []byte { return arkOf(fileNode(strings.Join(texts, ""))) }

// holds is a guest that is one file with a text, and refers to labels.
func holds(l api.Label, text string, refs ...api.Label) api.Object {
	return api.Object{Label: l, Ark: file(text), Refs: label.Sort(refs)}
}

// Own objects, as the document's "Own names" has them.

func ownText(name, text string, refs ...api.Label) api.Object {
	return api.Object{Label: label1(label.Text(name, []byte(text), refs)), Ark: file(text), Refs: label.Sort(refs), Ca: api.ByText}
}

func ownTree(name string, n api.Node) api.Object {
	data := arkOf(n)
	return api.Object{Label: label1(label.Source(name, digest.Of(data), nil, false)), Ark: data, Ca: api.BySource}
}

func ownFlat(name, text string) api.Object {
	return api.Object{Label: label1(label.Fixed(name, digest.Of([]byte(text)), true)), Ark: file(text), Ca: api.ByFlat}
}

// ownGroup is objects under the labels that they have as one group, with their new hash parts where their old ones stood.
func ownGroup(drafts ...api.Object) []api.Object {
	var olds []api.Label
	for _, o := range drafts {
		olds = append(olds, o.Label)
	}
	text, order := plainGroupText(drafts, olds)
	news := map[api.Label]api.Label{}
	for i, l := range order {
		news[l] = plainCall(plainFinger(text, i, l.Name), l.Name)
	}
	out := make([]api.Object, len(drafts))
	for i, o := range drafts {
		o.Ark, o.Ca, o.Label = bytes.Clone(o.Ark), api.ByGroup, news[o.Label]
		for _, m := range plainMentions(o.Ark, olds) {
			copy(o.Ark[m.at:], part(news[m.of]))
		}
		o.Refs = slices.Clone(o.Refs)
		for k, ref := range o.Refs {
			if to, is := news[ref]; is {
				o.Refs[k] = to
			}
		}
		o.Refs = label.Sort(o.Refs)
		out[i] = o
	}
	return out
}

// ringOf is so many drafts, each of which mentions the next one, and refers to it.
func ringOf(n int, name func(i int) string) []api.Object {
	at := func(i int) api.Label { return numbered(5000+i%n, name(i%n)) }
	out := make([]api.Object, n)
	for i := range out {
		out[i] = holds(at(i), fmt.Sprint(i, " ", part(at(i+1))), at(i+1))
	}
	return out
}

func byNumber(i int) string { return fmt.Sprint("n", i) }

func label1(l api.Label, e api.Errno) api.Label {
	if e != api.OK {
		panic("no label")
	}
	return l
}

func as(o api.Object, ca api.Ca) api.Object {
	o.Ca = ca
	return o
}

func called(o api.Object, l api.Label) api.Object {
	o.Label = l
	return o
}

func referring(o api.Object, refs ...api.Label) api.Object {
	o.Refs = label.Sort(refs)
	return o
}

func madeBy(o api.Object, l api.Label) api.Object {
	o.Maker = textOf(l)
	return o
}

func labelsIn(objects []api.Object) []api.Label {
	var out []api.Label
	for _, o := range objects {
		out = append(out, o.Label)
	}
	return out
}

// world is a store, and its device.
type world struct {
	t *testing.T
	s *shelf.Shelf
	v *journal.Device
}

func worldOf(t *testing.T, disk api.Disk, limit int) *world {
	t.Helper()
	v := journal.NewDevice(disk)
	s, e, _, _ := shelf.Open(v, limit)
	if e != api.OK {
		t.Fatalf("P12.3: %d", e)
	}
	return &world{t, s, v}
}

// newWorld is a store with these objects.
func newWorld(t *testing.T, objects ...api.Object) *world {
	t.Helper()
	w := worldOf(t, api.Disk{}, wide)
	w.lay(objects...)
	return w
}

// again is another store on the same bytes.
func (w *world) again(limit int) *world {
	w.t.Helper()
	return worldOf(w.t, w.v.Disk(), limit)
}

func (w *world) lay(objects ...api.Object) {
	w.t.Helper()
	var steps []api.Step
	for _, o := range objects {
		steps = append(steps, api.Step{Kind: api.StepPut, Object: o})
	}
	if len(steps) == 0 {
		return
	}
	if e, n := w.s.Apply(steps); e != api.OK {
		w.t.Fatalf("P12.1: Apply = %d, %d", e, n)
	}
}

// verifies holds that each object is what its label says.
func (w *world) verifies(what string) {
	w.t.Helper()
	e, f, _, _ := engine.Open(journal.NewDevice(w.v.Disk()), wide)
	if f != api.OK {
		w.t.Fatalf("P15.1: %d", f)
	}
	for _, l := range w.s.List() {
		if out := e.Verify(l, 100); out.Err != api.OK {
			w.t.Fatalf("W8: %s: %s: %d", what, showLabel(l), out.Err)
		}
	}
}

// state is all that a store tells, and how much its device was used.
func (w *world) state() string {
	d := w.v.Disk()
	return fmt.Sprintf("%d %x %x\n%s", w.v.Count(), digest.Of(d.Files[0]), digest.Of(d.Files[1]), tellShelf(w.s))
}

// tellShelf is all that a shelf's looks answer, but for how much room its journal takes.
func tellShelf(s *shelf.Shelf) string {
	var out strings.Builder
	for _, l := range s.List() {
		o, e := s.Get(l)
		fmt.Fprintln(&out, e, showObject(o))
	}
	fmt.Fprintln(&out, s.Sames(), s.Mades(), s.Keys())
	return out.String()
}

func showLabel(l api.Label) string {
	if l == (api.Label{}) {
		return "-"
	}
	return fmt.Sprintf("%s-%q", part(l), l.Name)
}

func showLabels(l []api.Label) string {
	var out []string
	for _, x := range l {
		out = append(out, showLabel(x))
	}
	return "{" + strings.Join(out, " ") + "}"
}

func showObject(o api.Object) string {
	return fmt.Sprintf("%s %s %x %d %q %d", showLabel(o.Label), showLabels(o.Refs), digest.Of(o.Ark), len(o.Ark), o.Maker, o.Ca)
}

func showFiles(files []api.DepotFile) string {
	var out strings.Builder
	for _, f := range files {
		fmt.Fprintf(&out, "%q %d %x\n", f.Name, len(f.Data), digest.Of(f.Data))
	}
	return out.String()
}

func namesOf(files []api.DepotFile) string {
	var out []string
	for _, f := range files {
		out = append(out, f.Name)
	}
	return strings.Join(out, " ")
}

// Depots, and what is done to them by hand. None of these changes what it is handed.

func copied(files []api.DepotFile) []api.DepotFile {
	var out []api.DepotFile
	for _, f := range files {
		out = append(out, api.DepotFile{Name: f.Name, Data: bytes.Clone(f.Data)})
	}
	return out
}

func without(files []api.DepotFile, name string) []api.DepotFile {
	return slices.DeleteFunc(copied(files), func(f api.DepotFile) bool { return f.Name == name })
}

// with is files with one that has this name and data, in the place of one that has that name.
func with(files []api.DepotFile, name string, data []byte) []api.DepotFile {
	return append(without(files, name), api.DepotFile{Name: name, Data: bytes.Clone(data)})
}

func dataOf(files []api.DepotFile, name string) []byte {
	for _, f := range files {
		if f.Name == name {
			return bytes.Clone(f.Data)
		}
	}
	panic("no file " + name)
}

// cardIn is the card of a label in a depot.
func cardIn(files []api.DepotFile, l api.Label) api.Card {
	c, e, _ := card.Read(string(dataOf(files, cardOf(l))))
	if e != api.OK {
		panic("no card")
	}
	return c
}

func cardText(c api.Card) []byte {
	text, e, n := card.Print(c)
	if e != api.OK {
		panic(fmt.Sprint("no card: ", n))
	}
	return []byte(text)
}

// turned is files in which a label's card is another one.
func turned(files []api.DepotFile, l api.Label, change func(c *api.Card)) []api.DepotFile {
	c := cardIn(files, l)
	change(&c)
	return with(files, cardOf(l), cardText(c))
}

var ownCard = api.DepotFile{Name: "depot.card", Data: []byte("Store: /graft/store\nMass: 1\nPriority: 40\n")}

// depotOf is a depot with these objects, whatever they are, packed by none.
func depotOf(objects ...api.Object) []api.DepotFile { return packedBy("none", objects...) }

func packedBy(how string, objects ...api.Object) []api.DepotFile {
	out := []api.DepotFile{ownCard}
	for _, o := range objects {
		data, tail := packed(o.Ark, how)
		c, e := card.Tells(o, arkName(data, tail), how, data)
		if e != api.OK {
			panic("no card")
		}
		out = with(with(out, c.Url, data), cardOf(o.Label), cardText(c))
	}
	return sortedFiles(out)
}

func sortedFiles(files []api.DepotFile) []api.DepotFile {
	out := copied(files)
	slices.SortFunc(out, func(a, b api.DepotFile) int { return strings.Compare(a.Name, b.Name) })
	return out
}

// signed is a depot all of whose cards have marks by keys.
func signed(files []api.DepotFile, keys ...api.Key) []api.DepotFile {
	out := copied(files)
	for i, f := range out {
		if c, e, _ := card.Read(string(f.Data)); e == api.OK {
			out[i].Data = cardText(signedBy(c, keys...))
		}
	}
	return out
}

func signedBy(c api.Card, keys ...api.Key) api.Card {
	for _, k := range keys {
		var e api.Errno
		if c, e = card.Sign(c, k); e != api.OK {
			panic("not signed")
		}
	}
	return c
}

func keyOf(name, secret string) api.Key { return api.Key{Name: name, Secret: []byte(secret)} }

var home, away = keyOf("k", "s"), keyOf("other", "o")

// others is so many files that are no cards.
func others(n int) []api.DepotFile {
	out := make([]api.DepotFile, n)
	for i := range out {
		out[i] = api.DepotFile{Name: fmt.Sprint("x", i)}
	}
	return out
}

// roomy is a list with room behind it, in which something stands.
func roomy[T any](list []T, stands T) []T {
	room := slices.Repeat([]T{stands}, len(list)+5)
	copy(room, list)
	return room[:len(list)]
}

// overwrite writes over a list and the room behind it.
func overwrite[T any](list []T, by T) {
	list = list[:cap(list)]
	for i := range list {
		list[i] = by
	}
}
