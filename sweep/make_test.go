package sweep

import (
	"encoding/binary"
	"fmt"
	"hash/crc32"
	"math/rand/v2"
	"slices"
	"strings"
	"testing"

	"graft/api"
	"graft/ark"
	"graft/digest"
	"graft/journal"
	"graft/label"
	"graft/shelf"
)

// What the tests' shelves are made of, and what they tell.

const all = 1 << 62 // a want without a bound

func sourceOf(seed uint64) *rand.Rand { return rand.New(rand.NewPCG(seed, 13)) }

// named is a label of one byte and a name: its letter says its place in order.
func named(letter byte) api.Label {
	var h api.Hash
	for i := range h {
		h[i] = letter
	}
	return api.Label{Hash: h, Name: string([]byte{letter})}
}

// numbered is a label that is unlike all others of this kind, and in no order.
func numbered(i int) api.Label {
	return api.Label{Hash: digest.Fold(digest.Of([]byte(fmt.Sprint(i)))), Name: fmt.Sprint("n", i)}
}

// labelsOf is a label for each letter.
func labelsOf(letters string) []api.Label {
	var out []api.Label
	for _, x := range []byte(letters) {
		out = append(out, named(x))
	}
	return out
}

// lettersOf is the letters of labels.
func lettersOf(labels []api.Label) string {
	var out string
	for _, l := range labels {
		if l != named(l.Hash[0]) {
			return showLabels(labels)
		}
		out += l.Name
	}
	return out
}

// groupsOf is the letters of groups, with a blank between.
func groupsOf(groups [][]api.Label) string {
	var out []string
	for _, g := range groups {
		out = append(out, lettersOf(g))
	}
	return strings.Join(out, " ")
}

func textOf(l api.Label) string {
	s, _ := label.Print(l)
	return s
}

func baseOf(l api.Label) string { return strings.TrimPrefix(textOf(l), api.Store) }

// fileOf is the archive of a file.
func fileOf(data string) []byte {
	b, e := ark.Print(api.Node{Kind: api.KindFile, Data: []byte(data)})
	if e != api.OK {
		panic("no archive")
	}
	return b
}

func put(l api.Label, data string, refs ...api.Label) api.Step {
	return api.Step{Kind: api.StepPut, Object: api.Object{Label: l, Ark: fileOf(data), Refs: label.Sort(refs)}}
}

// puts is an object for each word: its letter, and those to which it refers; each has an archive of its own of 120 bytes.
func puts(words string) []api.Step {
	var out []api.Step
	for _, w := range strings.Fields(words) {
		out = append(out, put(named(w[0]), w[:1], labelsOf(w[1:])...))
	}
	return out
}

func takeOff(l api.Label) api.Step { return api.Step{Kind: api.StepDrop, Label: l} }

func setTo(key, data string) api.Step {
	return api.Step{Kind: api.StepValue, Key: key, Value: []byte(data)}
}

func void(key string) api.Step { return api.Step{Kind: api.StepVoid, Key: key} }

func four(n int) string { return string(binary.LittleEndian.AppendUint32(nil, uint32(n))) }

func text(s string) string { return four(len(s)) + s }

// genOf is a generation as a profile's value has it.
func genOf(number int, l api.Label) string { return four(number) + text(baseOf(l)) }

// valueOf is a profile's value.
func valueOf(now, last int, gens ...api.Gen) string {
	out := four(now) + four(last)
	for _, g := range gens {
		out += genOf(g.Number, g.Label)
	}
	return out
}

func mustOpen(t *testing.T, v *journal.Device, limit int) *shelf.Shelf {
	t.Helper()
	s, e, a, b := shelf.Open(v, limit)
	if s == nil || e != api.OK {
		t.Fatalf("P12.3: Open = %v, %d, %d, %d", s != nil, e, a, b)
	}
	return s
}

func mustApply(t *testing.T, s *shelf.Shelf, steps ...api.Step) {
	t.Helper()
	if e, n := s.Apply(steps); e != api.OK {
		t.Fatalf("P12.1: Apply = %d, %d", e, n)
	}
}

// world is a shelf with these objects (see puts), and its device.
func world(t *testing.T, words string, more ...api.Step) (*shelf.Shelf, *journal.Device) {
	t.Helper()
	v := journal.NewDevice(api.Disk{})
	s := mustOpen(t, v, 1<<22)
	mustApply(t, s, append(puts(words), more...)...)
	return s, v
}

func showLabels(l []api.Label) string {
	var out []string
	for _, x := range l {
		out = append(out, fmt.Sprintf("%x-%q", x.Hash[:4], x.Name))
	}
	return "{" + strings.Join(out, " ") + "}"
}

// tell is all that a shelf holds, line by line.
func tell(s *shelf.Shelf) string {
	var b strings.Builder
	for _, l := range s.List() {
		o, _ := s.Get(l)
		fmt.Fprintf(&b, "object %s %s %q %q %d\n", textOf(l), showLabels(o.Refs), o.Ark, o.Maker, o.Ca)
	}
	fmt.Fprintln(&b, s.Sames(), s.Mades())
	for _, key := range s.Keys() {
		data, _ := s.Value(key)
		fmt.Fprintf(&b, "value %q %q\n", key, data)
	}
	return b.String()
}

// keepsAll is what roots and profiles say, and what they lead to.
func keepsAll(s *shelf.Shelf, extra []api.Label) string {
	var b strings.Builder
	fmt.Fprintln(&b, Roots(s), Profiles(s))
	for _, l := range Live(s, extra) {
		o, e := s.Get(l)
		fmt.Fprintf(&b, "live %s %s %q %d\n", textOf(l), showLabels(o.Refs), o.Ark, e)
	}
	return b.String()
}

func filesOf(v *journal.Device) [2]string {
	d := v.Disk()
	return [2]string{string(d.Files[0]), string(d.Files[1])}
}

// mark is how a shelf and its device stand: all of it, to the last operation.
type mark struct {
	told  string
	files [2]string
	count int
	last  int
	stat  api.Stat
}

func markOf(s *shelf.Shelf, v *journal.Device) mark {
	return mark{tell(s), filesOf(v), v.Count(), s.Last(), s.Stat()}
}

// unchanged holds that nothing was done.
func unchanged(t *testing.T, what string, s *shelf.Shelf, v *journal.Device, was mark) {
	t.Helper()
	if now := markOf(s, v); now != was {
		t.Errorf("%s: something was done: batch %d behind %d, %d operations behind %d\n%s", what, now.last, was.last, now.count, was.count, firstUnlike(now.told, was.told))
	}
}

// one holds that one transaction was made, of one entry of this kind.
func one(t *testing.T, what string, s *shelf.Shelf, v *journal.Device, was mark, kind byte) {
	t.Helper()
	story, e, _, _ := journal.Replay(v.Disk())
	if e != api.OK || s.Last() != was.last+1 || v.Count() != was.count+2 {
		t.Errorf("%s: %d, batch %d behind %d, %d operations behind %d", what, e, s.Last(), was.last, v.Count(), was.count)
		return
	}
	batch := story.Batches[len(story.Batches)-1]
	if len(batch) != 1 || len(batch[0]) == 0 || batch[0][0] != kind {
		t.Errorf("%s: the batch %q", what, batch)
	}
}

// Entries' bytes on a shelf's journal.
const (
	dropByte  = 3
	valueByte = 6
	voidByte  = 7
)

// firstUnlike is the first line in which two texts differ.
func firstUnlike(got, want string) string {
	a, b := strings.Split(got, "\n"), strings.Split(want, "\n")
	for i := range min(len(a), len(b)) {
		if a[i] != b[i] {
			return fmt.Sprintf("%.600s\nwant\n%.600s", a[i], b[i])
		}
	}
	return fmt.Sprintf("%d lines, want %d", len(a), len(b))
}

// again is a shelf over a device's bytes, on a device of its own.
func again(t *testing.T, v *journal.Device, limit int) (*shelf.Shelf, *journal.Device) {
	t.Helper()
	w := journal.NewDevice(v.Disk())
	return mustOpen(t, w, limit), w
}

// record is one of a journal's, as chapter 11 lays it.
func record(kind byte, number uint64, body string) string {
	front := binary.LittleEndian.AppendUint64([]byte{0x9e, kind}, number)
	front = binary.LittleEndian.AppendUint32(front, uint32(len(body)))
	return summed(string(front)) + summed(body)
}

func summed(s string) string { return s + four(int(crc32.ChecksumIEEE([]byte(s)))) }

// moved is a shelf's state as the base of a journal of this generation, whose first batch has this number.
func moved(t *testing.T, s *shelf.Shelf, v *journal.Device, gen, first uint64) *journal.Device {
	t.Helper()
	if e := s.Compact(); e != api.OK {
		t.Fatalf("P12.2: %d", e)
	}
	story, e, _, _ := journal.Replay(v.Disk())
	if e != api.OK {
		t.Fatalf("P11.5: %d", e)
	}
	out := record(1, gen, string(binary.LittleEndian.AppendUint64(nil, first)))
	for i, body := range story.Base {
		out += record(2, uint64(i), string(body))
	}
	out += record(3, uint64(len(story.Base)), "")
	return journal.NewDevice(api.Disk{Files: [2][]byte{[]byte(out)}})
}

// wrongNames is names that may not be.
func wrongNames() []string {
	return []string{"", ".r", ".", "a b", "a/b", "a\x00", "\xff", "é", "a:b", strings.Repeat("a", 212), strings.Repeat("a", 5000)}
}

// rightNames is names that may be, in order.
func rightNames() []string {
	return []string{"+", "-.", "0", "=", "?", "A", "_", "a", "a+", "aa", "root", strings.Repeat("z", 211)}
}

func clone2(l [][]api.Label) [][]api.Label {
	var out [][]api.Label
	for _, x := range l {
		out = append(out, slices.Clone(x))
	}
	return out
}
