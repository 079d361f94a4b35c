package engine

import (
	"encoding/binary"
	"fmt"
	"hash/crc32"
	"math/rand/v2"
	"slices"
	"strings"
	"testing"

	"graft/api"
	"graft/ark"
	"graft/digest"
	"graft/journal"
	"graft/label"
	"graft/shelf"
)

// What the tests' stores are made of, and what they tell.

const wide = 1 << 24 // a limit that no small store meets

func sourceOf(seed uint64) *rand.Rand { return rand.New(rand.NewPCG(seed, 15)) }

func pick[T any](source *rand.Rand, list ...T) T { return list[source.IntN(len(list))] }

// named is a label whose hash is twenty times a byte.
func named(b byte, name string) api.Label {
	l := api.Label{Name: name}
	for i := range l.Hash {
		l.Hash[i] = b
	}
	return l
}

// numbered is a label that is unlike all others of this kind, and in no order.
func numbered(i int, name string) api.Label {
	return api.Label{Hash: digest.Fold(digest.Of([]byte(fmt.Sprint(i)))), Name: name}
}

// digited is a label with these digits, with zeros ahead.
func digited(digits, name string) api.Label {
	h, e, _ := digest.UnBase32(strings.Repeat("0", 32-len(digits)) + digits)
	if e != api.OK {
		panic("no digits: " + digits)
	}
	return api.Label{Hash: api.Hash(h), Name: name}
}

func part(l api.Label) string { return digest.Base32(l.Hash[:]) }

func textOf(l api.Label) string {
	s, _ := label.Print(l)
	return s
}

func fileNode(s string) api.Node { return api.Node{Kind: api.KindFile, Data: []byte(s)} }

func program(s string) api.Node { return api.Node{Kind: api.KindFile, Exec: true, Data: []byte(s)} }

func link(s string) api.Node { return api.Node{Kind: api.KindLink, Link: s} }

func dir(entries ...api.Entry) api.Node { return api.Node{Kind: api.KindDir, List: entries} }

func entry(name string, n api.Node) api.Entry { return api.Entry{Name: name, Node: n} }

func arkOf(n api.Node) []byte {
	b, e := ark.Print(n)
	if e != api.OK {
		panic("no archive")
	}
	return b
}

// file is the archive of one file; its bytes begin at fileAt.
func file(texts ...string) []byte { return arkOf(fileNode(strings.Join(texts, ""))) }

const fileAt = 96

// guest is an object that is to be imported.
func guest(l api.Label, data []byte, refs ...api.Label) api.Object {
	return api.Object{Label: l, Ark: data, Refs: label.Sort(refs)}
}

// holding is a guest that is one file with these texts, and refers to labels.
func holding(l api.Label, text string, refs ...api.Label) api.Object {
	return guest(l, file(text), refs...)
}

// own is an object that is called after its content, as the document's "Own names" has it.
func ownText(name, text string, refs ...api.Label) api.Object {
	l, e := label.Text(name, []byte(text), refs)
	if e != api.OK {
		panic("no text")
	}
	return api.Object{Label: l, Ark: file(text), Refs: label.Sort(refs), Ca: api.ByText}
}

func ownTree(name string, n api.Node) api.Object {
	data := arkOf(n)
	l, e := label.Source(name, digest.Of(data), nil, false)
	if e != api.OK {
		panic("no tree")
	}
	return api.Object{Label: l, Ark: data, Ca: api.BySource}
}

func ownFlat(name, text string) api.Object {
	l, e := label.Fixed(name, digest.Of([]byte(text)), true)
	if e != api.OK {
		panic("no file")
	}
	return api.Object{Label: l, Ark: file(text), Ca: api.ByFlat}
}

// world is a store, and its device.
type world struct {
	t *testing.T
	e *Engine
	v *journal.Device
}

func mustOpen(t *testing.T, v *journal.Device, limit int) *Engine {
	t.Helper()
	e, f, a, b := Open(v, limit)
	if e == nil || f != api.OK || a != 0 || b != 0 {
		t.Fatalf("P15.1: Open = %v, %d, %d, %d", e != nil, f, a, b)
	}
	return e
}

func worldOf(t *testing.T, disk api.Disk, limit int) *world {
	t.Helper()
	v := journal.NewDevice(disk)
	return &world{t, mustOpen(t, v, limit), v}
}

// newWorld is a store with these objects.
func newWorld(t *testing.T, objects ...api.Object) *world {
	t.Helper()
	w := worldOf(t, api.Disk{}, wide)
	w.take(objects...)
	return w
}

// again is another store on the same bytes.
func (w *world) again(limit int) *world {
	w.t.Helper()
	return worldOf(w.t, w.v.Disk(), limit)
}

// full is another store on the same bytes, whose journal has no room.
func (w *world) full() *world {
	w.t.Helper()
	return w.again(max(w.e.Shelf().Stat().Journal, api.MinRoom))
}

// take imports objects.
func (w *world) take(objects ...api.Object) {
	w.t.Helper()
	if o := w.e.Import(objects, 7); o.Err != api.OK {
		w.t.Fatalf("P15.2: Import = %s", show(o))
	}
}

// lay puts objects on the shelf by hand.
func (w *world) lay(objects ...api.Object) {
	w.t.Helper()
	var steps []api.Step
	for _, o := range objects {
		steps = append(steps, api.Step{Kind: api.StepPut, Object: o})
	}
	w.apply(steps...)
}

func (w *world) apply(steps ...api.Step) {
	w.t.Helper()
	if e, n := w.e.Shelf().Apply(steps); e != api.OK {
		w.t.Fatalf("P12.1: Apply = %d, %d", e, n)
	}
}

func (w *world) drop(labels ...api.Label) {
	w.t.Helper()
	var steps []api.Step
	for _, l := range labels {
		steps = append(steps, api.Step{Kind: api.StepDrop, Label: l})
	}
	w.apply(steps...)
}

// text adds a text: its label.
func (w *world) text(name, data string, refs ...api.Label) api.Label {
	w.t.Helper()
	o := w.e.AddText(name, []byte(data), refs)
	if o.Err != api.OK {
		w.t.Fatalf("P15.3: AddText = %s", show(o))
	}
	return o.At
}

func (w *world) tree(name string, n api.Node) api.Label {
	w.t.Helper()
	o := w.e.AddTree(name, n)
	if o.Err != api.OK {
		w.t.Fatalf("P15.4: AddTree = %s", show(o))
	}
	return o.At
}

// rename renames what roots lead to: what each is called now.
func (w *world) rename(roots ...api.Label) map[api.Label]api.Label {
	w.t.Helper()
	o := w.e.Rewrite(roots, 5)
	if o.Err != api.OK {
		w.t.Fatalf("P15.5: Rewrite = %s", show(o))
	}
	return tableOf(o.Map)
}

func tableOf(list []api.Same) map[api.Label]api.Label {
	out := map[api.Label]api.Label{}
	for _, x := range list {
		out[x.Old] = x.New
	}
	return out
}

// bytes is those of the one file that an object is.
func (w *world) bytes(l api.Label) string {
	w.t.Helper()
	o, e := w.e.Read(l)
	n, f, _ := ark.Parse(o.Ark)
	if e != api.OK || f != api.OK || n.Kind != api.KindFile {
		w.t.Fatalf("P15.6: Read of %s: %d, %d, kind %d", textOf(l), e, f, n.Kind)
	}
	return string(n.Data)
}

func (w *world) refs(l api.Label) []api.Label {
	w.t.Helper()
	o, e := w.e.Read(l)
	if e != api.OK {
		w.t.Fatalf("P15.6: Read of %s: %d", textOf(l), e)
	}
	return o.Refs
}

// state is all that a store tells, and how much its device was used.
func (w *world) state() string {
	return fmt.Sprint(w.v.Count(), "\n", filesOf(w.v), "\n", tellShelf(w.e.Shelf()))
}

// refuses holds that a call answers an outcome, and that nothing has changed.
func (w *world) refuses(what string, call func() api.Outcome, want api.Outcome) {
	w.t.Helper()
	before := w.state()
	got := call()
	if show(got) != show(want) {
		w.t.Errorf("%s: %s\nwant %s", what, show(got), show(want))
	}
	if w.state() != before {
		w.t.Errorf("%s: the store has changed", what)
	}
}

// denies holds that roots can't be renamed, by pieces of some lengths.
func (w *world) denies(what string, want api.Outcome, roots ...api.Label) {
	w.t.Helper()
	for _, chunk := range []int{1, 5, 1 << 20} {
		w.refuses(what, func() api.Outcome { return w.e.Rewrite(roots, chunk) }, want)
	}
}

func filesOf(v *journal.Device) string {
	d := v.Disk()
	return fmt.Sprintf("%x %x", digest.Of(d.Files[0]), digest.Of(d.Files[1]))
}

func showLabels(l []api.Label) string {
	var out []string
	for _, x := range l {
		out = append(out, showLabel(x))
	}
	return "{" + strings.Join(out, " ") + "}"
}

func showLabel(l api.Label) string {
	if l == (api.Label{}) {
		return "-"
	}
	return fmt.Sprintf("%s-%q", part(l), l.Name)
}

// show is all of an outcome.
func show(o api.Outcome) string {
	out := fmt.Sprintf("%d at %s other %s place %d", o.Err, showLabel(o.At), showLabel(o.Other), o.Place)
	for _, x := range o.Map {
		out += "\n  " + showLabel(x.Old) + " " + showLabel(x.New)
	}
	if len(o.First) > 0 || len(o.Second) > 0 {
		out += fmt.Sprintf("\n  first %q\n  second %q", o.First, o.Second)
	}
	return out
}

func showObject(o api.Object) string {
	return fmt.Sprintf("%s %s %x %d %q %d", showLabel(o.Label), showLabels(o.Refs), digest.Of(o.Ark), len(o.Ark), o.Maker, o.Ca)
}

// tellShelf is all that a shelf's looks answer, but for how much room its journal takes.
func tellShelf(s *shelf.Shelf) string {
	var out strings.Builder
	for _, l := range s.List() {
		o, e := s.Get(l)
		fmt.Fprintln(&out, e, showObject(o))
	}
	for _, x := range s.Sames() {
		fmt.Fprintln(&out, showLabel(x.Old), showLabel(x.New))
	}
	for _, x := range s.Mades() {
		fmt.Fprintln(&out, x.Key, showLabel(x.Label))
	}
	for _, key := range s.Keys() {
		data, e := s.Value(key)
		fmt.Fprintf(&out, "%d %q %q\n", e, key, data)
	}
	c := s.Stat()
	fmt.Fprintln(&out, c.Objects, c.Arks, c.Bytes, c.Sames, c.Mades, c.Values)
	return out.String()
}

// record is one of a journal's, as chapter 11 lays it.
func record(kind byte, number uint64, body string) string {
	front := binary.LittleEndian.AppendUint64([]byte{0x9e, kind}, number)
	front = binary.LittleEndian.AppendUint32(front, uint32(len(body)))
	return summed(string(front)) + summed(body)
}

func summed(s string) string {
	return s + string(binary.LittleEndian.AppendUint32(nil, crc32.ChecksumIEEE([]byte(s))))
}

// journalOf is a disk whose journal has a base and so many batches behind it, the first with this number.
func journalOf(first uint64, base [][]byte, batches ...[][]byte) api.Disk {
	out := record(1, 1, string(binary.LittleEndian.AppendUint64(nil, first)))
	for i, body := range base {
		out += record(2, uint64(i), string(body))
	}
	out += record(3, uint64(len(base)), "")
	for n, batch := range batches {
		for i, body := range batch {
			out += record(4, uint64(i), string(body))
		}
		out += record(5, first+uint64(n), string(binary.LittleEndian.AppendUint32(nil, uint32(len(batch)))))
	}
	return api.Disk{Files: [2][]byte{[]byte(out)}}
}

// last is the store once more, on a device that has no number left for another batch.
func (w *world) last() *world {
	w.t.Helper()
	copied := w.again(wide)
	if e := copied.e.Shelf().Compact(); e != api.OK {
		w.t.Fatalf("P12.2: %d", e)
	}
	story, e, _, _ := journal.Replay(copied.v.Disk())
	if e != api.OK {
		w.t.Fatalf("P11.5: %d", e)
	}
	return worldOf(w.t, journalOf(api.MaxNumber, story.Base, nil), wide)
}

// sorted is labels in order.
func sorted(l ...api.Label) []api.Label { return label.Sort(l) }

// roomy is a list with room behind it, in which something stands.
func roomy[T any](list []T, stands T) []T {
	room := slices.Repeat([]T{stands}, len(list)+5)
	copy(room, list)
	return room[:len(list)]
}

// overwrite writes over a list and the room behind it.
func overwrite[T any](list []T, by T) {
	list = list[:cap(list)]
	for i := range list {
		list[i] = by
	}
}
