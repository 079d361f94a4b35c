package wire

import (
	"encoding/binary"
	"fmt"
	"hash/crc32"
	"math/rand/v2"
	"slices"
	"strings"
	"testing"

	"graft/api"
	"graft/ark"
	"graft/digest"
	"graft/engine"
	"graft/journal"
	"graft/label"
)

// What the tests' messages, streams and stores are made of.

func sourceOf(seed uint64) *rand.Rand { return rand.New(rand.NewPCG(seed, 16)) }

func pick[T any](source *rand.Rand, list ...T) T { return list[source.IntN(len(list))] }

// number is eight bytes, the lowest first.
func number(n int) string { return string(binary.LittleEndian.AppendUint64(nil, uint64(n))) }

func word(s string) string { return number(len(s)) + s + zeros((8-len(s)%8)%8) }

func zeros(n int) string { return strings.Repeat("\x00", n) }

func sum(s string) string {
	return string(binary.LittleEndian.AppendUint32(nil, crc32.ChecksumIEEE([]byte(s))))
}

func summed(s string) string { return s + sum(s) }

// record is one of a stream's, whatever its kind and body.
func record(kind byte, body string) string {
	return summed(string([]byte{kind})+number(len(body))) + summed(body)
}

func streamOf(objects ...api.Object) string {
	records := make([]string, len(objects))
	for i, o := range objects {
		records[i] = record(1, bodyOf(o))
	}
	return "graftexp" + strings.Join(records, "") + record(2, number(len(objects)))
}

// bodyOf is an object's body, right or not.
func bodyOf(o api.Object) string {
	var refs string
	for _, l := range o.Refs {
		refs += word(textOf(l))
	}
	return word(textOf(o.Label)) + number(len(o.Refs)) + refs + word(o.Maker) + number(int(o.Ca)) + word(string(o.Ark))
}

// named is a label whose hash is twenty times a byte.
func named(b byte, name string) api.Label {
	l := api.Label{Name: name}
	for i := range l.Hash {
		l.Hash[i] = b
	}
	return l
}

// numbered is a label that is unlike all others of this kind, and in no order.
func numbered(i int, name string) api.Label {
	return api.Label{Hash: digest.Fold(digest.Of([]byte(fmt.Sprint(i)))), Name: name}
}

// many is so many labels, in order.
func many(n int, name string) []api.Label { return manyFrom(0, n, name) }

func manyFrom(first, n int, name string) []api.Label {
	out := make([]api.Label, n)
	for i := range out {
		out[i] = numbered(first+i, name)
	}
	return label.Sort(out)
}

var (
	la, lb, lc = named(1, "a"), named(2, "b"), named(3, "c")
	longest    = numbered(-1, strings.Repeat("n", api.MaxName))
)

func textOf(l api.Label) string {
	s, _ := label.Print(l)
	return s
}

func digits(l api.Label) string { return digest.Base32(l.Hash[:]) }

func fileNode(s string) api.Node { return api.Node{Kind: api.KindFile, Data: []byte(s)} }

func arkOf(n api.Node) []byte {
	b, e := ark.Print(n)
	if e != api.OK {
		panic("no archive")
	}
	return b
}

func file(s string) []byte { return arkOf(fileNode(s)) }

// fileFrame is how many bytes the archive of a file has beside the word of its bytes.
const fileFrame = 24 + 16*5

// fileOf is the archive of a file that has so many bytes.
func fileOf(size int) []byte {
	out := file(strings.Repeat("f", size-fileFrame-8))
	if len(out) != size {
		panic("no such size")
	}
	return out
}

func holding(l api.Label, text string, refs ...api.Label) api.Object {
	return api.Object{Label: l, Ark: file(text), Refs: label.Sort(refs)}
}

// greatest is an object that has as many bytes as one can have.
func greatest() api.Object {
	return api.Object{Label: longest, Refs: many(api.MaxRefs, longest.Name), Ark: fileOf(api.MaxArk), Maker: textOf(longest), Ca: api.ByGroup}
}

// world is a store, and its device.
type world struct {
	t *testing.T
	e *engine.Engine
	v *journal.Device
}

func newWorld(t *testing.T, limit int) *world {
	t.Helper()
	return worldOf(t, api.Disk{}, limit)
}

func worldOf(t *testing.T, disk api.Disk, limit int) *world {
	t.Helper()
	v := journal.NewDevice(disk)
	e, f, _, _ := engine.Open(v, limit)
	if f != api.OK {
		t.Fatalf("P15.1: %d", f)
	}
	return &world{t, e, v}
}

// lay puts objects on the shelf by hand.
func (w *world) lay(objects ...api.Object) {
	w.t.Helper()
	var steps []api.Step
	for _, o := range objects {
		steps = append(steps, api.Step{Kind: api.StepPut, Object: o})
	}
	if e, n := w.e.Shelf().Apply(steps); e != api.OK {
		w.t.Fatalf("P12.1: Apply = %d, %d", e, n)
	}
}

// text adds a text: its label.
func (w *world) text(name, data string, refs ...api.Label) api.Label {
	w.t.Helper()
	o := w.e.AddText(name, []byte(data), refs)
	if o.Err != api.OK {
		w.t.Fatalf("P15.3: AddText = %d", o.Err)
	}
	return o.At
}

// rename renames what a label leads to: what it is called now.
func (w *world) rename(l api.Label) api.Label {
	w.t.Helper()
	if o := w.e.Rewrite([]api.Label{l}, 5); o.Err != api.OK {
		w.t.Fatalf("P15.5: Rewrite = %d", o.Err)
	}
	out, _ := w.e.Lookup(l)
	return out
}

// state is what a store's device holds, and how much it was used.
func (w *world) state() string {
	d := w.v.Disk()
	return fmt.Sprintf("%d %x %x", w.v.Count(), digest.Of(d.Files[0]), digest.Of(d.Files[1]))
}

func showLabels(l []api.Label) string {
	var out []string
	for _, x := range l {
		out = append(out, fmt.Sprintf("%s-%q", digits(x), x.Name))
	}
	return "{" + strings.Join(out, " ") + "}"
}

// brief is a text, or what tells it from others if it is long.
func brief[T string | []byte](s T) string {
	if len(s) < 300 {
		return fmt.Sprintf("%q", s)
	}
	return fmt.Sprintf("%q.. %d bytes %x", s[:40], len(s), digest.Of([]byte(s)))
}

func showAsk(a api.Ask) string {
	return fmt.Sprintf("op %d %s text %s data %s number %d", a.Op, showLabels(a.Labels), brief(a.Text), brief(a.Data), a.Number)
}

func showSay(a api.Say) string {
	return fmt.Sprintf("err %d %s text %s data %s number %d", a.Err, showLabels(a.Labels), brief(a.Text), brief(a.Data), a.Number)
}

func emptyAsk(a api.Ask) bool {
	return a.Op == 0 && emptySay(api.Say{Labels: a.Labels, Text: a.Text, Data: a.Data, Number: a.Number})
}

func emptySay(a api.Say) bool {
	return a.Err == 0 && len(a.Labels) == 0 && a.Text == "" && len(a.Data) == 0 && a.Number == 0
}

func showObjects(objects []api.Object) string {
	var out strings.Builder
	for _, o := range objects {
		fmt.Fprintf(&out, "%s %s ark %s maker %q ca %d\n", showLabels([]api.Label{o.Label}), showLabels(o.Refs), brief(o.Ark), o.Maker, o.Ca)
	}
	return out.String()
}

// piecesOf cuts a text at random, into pieces that may be empty.
func piecesOf(source *rand.Rand, s string, most int) []string {
	var out []string
	for s != "" {
		n := min(source.IntN(most+1), len(s))
		out, s = append(out, s[:n]), s[n:]
	}
	return append(out, "")
}

// bytewise is a text byte by byte.
func bytewise(s string) []string {
	out := make([]string, len(s))
	for i := range len(s) {
		out[i] = s[i : i+1]
	}
	return out
}

// roomy is a list with room behind it, in which something stands.
func roomy[T any](list []T, stands T) []T {
	room := slices.Repeat([]T{stands}, len(list)+5)
	copy(room, list)
	return room[:len(list)]
}

// overwrite writes over a list and the room behind it.
func overwrite[T any](list []T, by T) {
	list = list[:cap(list)]
	for i := range list {
		list[i] = by
	}
}
