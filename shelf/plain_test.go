package shelf

import (
	"encoding/binary"
	"fmt"
	"math/rand/v2"
	"slices"
	"strings"
	"testing"

	"graft/api"
	"graft/ark"
	"graft/journal"
	"graft/label"
)

// A plain reading of the chapter, with lists that are gone through from end to end, that the package is held against.

func sourceOf(seed uint64) *rand.Rand { return rand.New(rand.NewPCG(seed, 12)) }

func four(n int) string { return string(binary.LittleEndian.AppendUint32(nil, uint32(n))) }

func text(s string) string { return four(len(s)) + s }

// base is the text of a label's base, which must be printable.
func base(l api.Label) string {
	s, e := label.Base(l)
	if e != api.OK {
		panic("not printable: " + l.Name)
	}
	return text(s)
}

// The entries, as the chapter's table lays them.

func arkEntry(data string) string { return "\x01" + text(data) }

func putEntry(o api.Object, number int) string {
	out := "\x02" + base(o.Label) + four(len(o.Refs))
	for _, r := range o.Refs {
		out += base(r)
	}
	return out + text(o.Maker) + string([]byte{byte(o.Ca)}) + four(number)
}

func dropEntry(l api.Label) string { return "\x03" + base(l) }

func sameEntry(old, to api.Label) string { return "\x04" + base(old) + base(to) }

func madeEntry(key string, to api.Label) string { return "\x05" + text(key) + base(to) }

func valueEntry(key, data string) string { return "\x06" + text(key) + text(data) }

func voidEntry(key string) string { return "\x07" + text(key) }

// packed is entries as payloads.
func packed(entries []string) []string {
	var out []string
	begun := false
	for _, x := range entries {
		if !begun {
			out = append(out, "")
		}
		out[len(out)-1] += x
		begun = len(out[len(out)-1]) < 262144
	}
	return out
}

type plainArk struct {
	number int
	data   string
}

type plainState struct {
	objects []api.Object // their lists are never written into
	arks    []plainArk
	came    int // how many arks ever came
	sames   []api.Same
	mades   []api.Made
	values  []api.Pair
}

func (p plainState) clone() plainState {
	p.objects, p.arks = slices.Clone(p.objects), slices.Clone(p.arks)
	p.sames, p.mades, p.values = slices.Clone(p.sames), slices.Clone(p.mades), slices.Clone(p.values)
	return p
}

func (p plainState) at(l api.Label) int {
	return slices.IndexFunc(p.objects, func(o api.Object) bool { return o.Label == l })
}

func (p plainState) has(l api.Label) bool { return p.at(l) >= 0 }

func (p plainState) arkNumber(data string) int {
	for _, a := range p.arks {
		if a.data == data {
			return a.number
		}
	}
	return -1
}

func printable(l api.Label) bool {
	_, e := label.Print(l)
	return e == api.OK
}

// plainRight goes by 12.1.
func plainRight(o api.Object) bool {
	ok := printable(o.Label) && len(o.Refs) <= 256 && int(o.Ca) >= 0 && int(o.Ca) <= 4
	for i := range o.Refs {
		ok = ok && printable(o.Refs[i])
		for j := range i {
			ok = ok && label.Compare(o.Refs[j], o.Refs[i]) < 0
		}
	}
	if _, e, _ := ark.Parse(o.Ark); e != api.OK {
		return false
	}
	if _, e, _ := label.Parse(o.Maker); e != api.OK && o.Maker != "" {
		return false
	}
	return ok
}

func sameObject(a, b api.Object) bool {
	return a.Label == b.Label && slices.Equal(a.Refs, b.Refs) && string(a.Ark) == string(b.Ark) && a.Maker == b.Maker && a.Ca == b.Ca
}

func plainKey(key string) bool { return len(key) >= 1 && len(key) <= 255 }

// do goes by 2. of P12.1: the entries of a step, or the error.
func (p *plainState) do(x api.Step) ([]string, api.Errno) {
	switch x.Kind {
	case 1:
		return p.put(x.Object)
	case 2:
		return p.drop(x.Label)
	case 3:
		if !printable(x.Same.Old) {
			return nil, api.ErrArg
		}
		if !p.has(x.Same.New) {
			return nil, api.ErrNone
		}
		for _, y := range p.sames {
			if y.Old == x.Same.Old && y.New == x.Same.New {
				return nil, api.OK
			}
			if y.Old == x.Same.Old {
				return nil, api.ErrThere
			}
		}
		if len(p.sames) == 8192 {
			return nil, api.ErrFull
		}
		p.sames = append(p.sames, x.Same)
		return []string{sameEntry(x.Same.Old, x.Same.New)}, api.OK
	case 4:
		if !plainKey(x.Made.Key) {
			return nil, api.ErrArg
		}
		if !p.has(x.Made.Label) {
			return nil, api.ErrNone
		}
		for _, y := range p.mades {
			if y == x.Made {
				return nil, api.OK
			}
			if y.Key == x.Made.Key {
				return nil, api.ErrThere
			}
		}
		if len(p.mades) == 8192 {
			return nil, api.ErrFull
		}
		p.mades = append(p.mades, x.Made)
		return []string{madeEntry(x.Made.Key, x.Made.Label)}, api.OK
	case 5:
		return p.setValue(x.Key, string(x.Value))
	case 6:
		n := len(p.values)
		p.values = slices.DeleteFunc(p.values, func(y api.Pair) bool { return y.Key == x.Key })
		if len(p.values) == n {
			return nil, api.ErrNone
		}
		return []string{voidEntry(x.Key)}, api.OK
	}
	return nil, api.ErrArg
}

func (p *plainState) put(o api.Object) ([]string, api.Errno) {
	if !plainRight(o) {
		return nil, api.ErrObject
	}
	for _, y := range p.objects {
		switch {
		case y.Label.Hash != o.Label.Hash:
		case y.Label.Name != o.Label.Name:
			return nil, api.ErrClash
		case !sameObject(o, y):
			return nil, api.ErrThere
		default:
			return nil, api.OK
		}
	}
	if len(p.objects) == 4096 {
		return nil, api.ErrFull
	}
	var entries []string
	if p.arkNumber(string(o.Ark)) < 0 {
		p.arks = append(p.arks, plainArk{p.came, string(o.Ark)})
		p.came++
		entries = append(entries, arkEntry(string(o.Ark)))
	}
	o.Refs, o.Ark = slices.Clone(o.Refs), slices.Clone(o.Ark)
	p.objects = append(p.objects, o)
	return append(entries, putEntry(o, p.arkNumber(string(o.Ark)))), api.OK
}

func (p *plainState) drop(l api.Label) ([]string, api.Errno) {
	at := p.at(l)
	if at < 0 {
		return nil, api.ErrNone
	}
	data := string(p.objects[at].Ark)
	p.objects = slices.Delete(p.objects, at, at+1)
	p.sames = slices.DeleteFunc(p.sames, func(y api.Same) bool { return y.New == l })
	p.mades = slices.DeleteFunc(p.mades, func(y api.Made) bool { return y.Label == l })
	if !slices.ContainsFunc(p.objects, func(o api.Object) bool { return string(o.Ark) == data }) {
		p.arks = slices.DeleteFunc(p.arks, func(a plainArk) bool { return a.data == data })
	}
	return []string{dropEntry(l)}, api.OK
}

func (p *plainState) setValue(key, data string) ([]string, api.Errno) {
	if !plainKey(key) {
		return nil, api.ErrArg
	}
	if len(data) > 65536 {
		return nil, api.ErrLong
	}
	at := slices.IndexFunc(p.values, func(y api.Pair) bool { return y.Key == key })
	if at < 0 && len(p.values) == 1024 {
		return nil, api.ErrFull
	}
	if at < 0 {
		p.values = append(p.values, api.Pair{Key: key, Value: data})
	} else {
		p.values[at].Value = data
	}
	return []string{valueEntry(key, data)}, api.OK
}

// whole goes by 3. of P12.1.
func (p plainState) whole(steps []api.Step) (api.Errno, int) {
	for i, x := range steps {
		if at := p.at(x.Object.Label); x.Kind == 1 && at >= 0 {
			for _, r := range p.objects[at].Refs {
				if !p.has(r) {
					return api.ErrNone, i
				}
			}
		}
		if x.Kind == 2 && !p.has(x.Label) {
			for _, o := range p.objects {
				if slices.Contains(o.Refs, x.Label) {
					return api.ErrNeeded, i
				}
			}
		}
	}
	return api.OK, 0
}

// ordered is the objects in order.
func (p plainState) ordered() []api.Object {
	out := slices.Clone(p.objects)
	slices.SortFunc(out, func(a, b api.Object) int { return strings.Compare(textOf(a.Label), textOf(b.Label)) })
	return out
}

func (p plainState) orderedSames() []api.Same {
	out := slices.Clone(p.sames)
	slices.SortFunc(out, func(a, b api.Same) int { return label.Compare(a.Old, b.Old) })
	return out
}

func (p plainState) orderedMades() []api.Made {
	out := slices.Clone(p.mades)
	slices.SortFunc(out, func(a, b api.Made) int { return strings.Compare(a.Key, b.Key) })
	return out
}

func (p plainState) orderedValues() []api.Pair {
	out := slices.Clone(p.values)
	slices.SortFunc(out, func(a, b api.Pair) int { return strings.Compare(a.Key, b.Key) })
	return out
}

// compacted goes by P12.2: the base's entries, and the state with its arks' new numbers.
func (p plainState) compacted() ([]string, plainState) {
	var entries []string
	out := p.clone()
	out.arks = nil
	for _, o := range p.ordered() {
		if out.arkNumber(string(o.Ark)) < 0 {
			entries = append(entries, arkEntry(string(o.Ark)))
			out.arks = append(out.arks, plainArk{len(out.arks), string(o.Ark)})
		}
		entries = append(entries, putEntry(o, out.arkNumber(string(o.Ark))))
	}
	out.came = len(out.arks)
	for _, x := range p.orderedSames() {
		entries = append(entries, sameEntry(x.Old, x.New))
	}
	for _, x := range p.orderedMades() {
		entries = append(entries, madeEntry(x.Key, x.Label))
	}
	for _, x := range p.orderedValues() {
		entries = append(entries, valueEntry(x.Key, x.Value))
	}
	return entries, out
}

func showLabel(l api.Label) string { return fmt.Sprintf("%x-%q", l.Hash, l.Name) }

func showLabels(l []api.Label) string {
	var out []string
	for _, x := range l {
		out = append(out, showLabel(x))
	}
	return "{" + strings.Join(out, " ") + "}"
}

func showObject(o api.Object) string {
	return fmt.Sprintf("%s %s %q %q %d", showLabel(o.Label), showLabels(o.Refs), o.Ark, o.Maker, o.Ca)
}

// tell is all that the plain state answers to looks, line by line.
func (p plainState) tell() string {
	var b strings.Builder
	var all []api.Label
	for _, o := range p.ordered() {
		all = append(all, o.Label)
	}
	fmt.Fprintf(&b, "list %s\n", showLabels(all))
	for _, o := range p.ordered() {
		var referrers []api.Label
		for _, x := range p.ordered() {
			if x.Label != o.Label && slices.Contains(x.Refs, o.Label) {
				referrers = append(referrers, x.Label)
			}
		}
		fmt.Fprintf(&b, "object %s, needed by %s, leads to %s\n", showObject(o), showLabels(referrers), showLabels(p.closure(o.Label)))
	}
	for _, x := range p.orderedSames() {
		fmt.Fprintf(&b, "same %s %s\n", showLabel(x.Old), showLabel(x.New))
	}
	for _, x := range p.orderedMades() {
		fmt.Fprintf(&b, "made %q %s\n", x.Key, showLabel(x.Label))
	}
	for _, x := range p.orderedValues() {
		fmt.Fprintf(&b, "value %q %q\n", x.Key, x.Value)
	}
	size := 0
	for _, a := range p.arks {
		size += len(a.data)
	}
	fmt.Fprintf(&b, "counts %d %d %d %d %d %d\n", len(p.objects), len(p.arks), size, len(p.sames), len(p.mades), len(p.values))
	return b.String()
}

// closure is the roots, and behind them what those lead to that stand there already.
func (p plainState) closure(roots ...api.Label) []api.Label {
	var out []api.Label
	reach := func(l []api.Label) {
		for _, x := range l {
			if !slices.Contains(out, x) {
				out = append(out, x)
			}
		}
	}
	reach(roots)
	for i := 0; i < len(out); i++ {
		reach(p.objects[p.at(out[i])].Refs)
	}
	slices.SortFunc(out, func(a, b api.Label) int { return strings.Compare(textOf(a), textOf(b)) })
	return out
}

// tell is all that a shelf answers to looks, in the plain state's words; looks that do not fit together are told too.
func tell(s *Shelf) string {
	var b strings.Builder
	fmt.Fprintf(&b, "list %s\n", showLabels(s.List()))
	for _, l := range s.List() {
		o, e := s.Get(l)
		closure, e2, at := s.Closure([]api.Label{l})
		fmt.Fprintf(&b, "object %s, needed by %s, leads to %s\n", showObject(o), showLabels(s.Referrers(l)), showLabels(closure))
		if named, e3 := s.Named(l.Hash); e != api.OK || e2 != api.OK || at != 0 || e3 != api.OK || named != l || !s.Has(l) {
			fmt.Fprintf(&b, "at odds: %d %d %d %d %s\n", e, e2, at, e3, showLabel(named))
		}
	}
	for _, x := range s.Sames() {
		to, e := s.Same(x.Old)
		fmt.Fprintf(&b, "same %s %s\n", showLabel(x.Old), showLabel(x.New))
		if to != x.New || e != api.OK {
			fmt.Fprintf(&b, "at odds: %s %d\n", showLabel(to), e)
		}
	}
	for _, x := range s.Mades() {
		to, e := s.Made(x.Key)
		fmt.Fprintf(&b, "made %q %s\n", x.Key, showLabel(x.Label))
		if to != x.Label || e != api.OK {
			fmt.Fprintf(&b, "at odds: %s %d\n", showLabel(to), e)
		}
	}
	for _, key := range s.Keys() {
		data, e := s.Value(key)
		fmt.Fprintf(&b, "value %q %q\n", key, data)
		if e != api.OK {
			fmt.Fprintf(&b, "at odds: %d\n", e)
		}
	}
	c := s.Stat()
	fmt.Fprintf(&b, "counts %d %d %d %d %d %d\n", c.Objects, c.Arks, c.Bytes, c.Sames, c.Mades, c.Values)
	return b.String()
}

// firstUnlike is the first line in which two texts differ.
func firstUnlike(got, want string) string {
	a, b := strings.Split(got, "\n"), strings.Split(want, "\n")
	for i := range min(len(a), len(b)) {
		if a[i] != b[i] {
			return fmt.Sprintf("%.1000s\nwant\n%.1000s", a[i], b[i])
		}
	}
	return fmt.Sprintf("%d lines, want %d", len(a), len(b))
}

func bodiesOf(texts []string) [][]byte {
	var out [][]byte
	for _, s := range texts {
		out = append(out, []byte(s))
	}
	return out
}

func textsOf(bodies [][]byte) []string {
	var out []string
	for _, b := range bodies {
		out = append(out, string(b))
	}
	return out
}

func filesOf(v *journal.Device) [2]string {
	d := v.Disk()
	return [2]string{string(d.Files[0]), string(d.Files[1])}
}

// both is a shelf and a plain one, each on a device of its own.
type both struct {
	t     *testing.T
	limit int
	v     *journal.Device
	s     *Shelf
	p     plainState
	pv    *journal.Device
	pj    *journal.Journal
}

func mustOpen(t *testing.T, v *journal.Device, limit int) *Shelf {
	t.Helper()
	s, e, a, b := Open(v, limit)
	if s == nil || e != api.OK || a != 0 || b != 0 {
		t.Fatalf("P12.3: Open = %v, %d, %d, %d", s != nil, e, a, b)
	}
	return s
}

// begin is a new shelf, on devices without bytes.
func begin(t *testing.T, limit int) *both {
	t.Helper()
	b := &both{t: t, limit: limit, v: journal.NewDevice(api.Disk{}), pv: journal.NewDevice(api.Disk{})}
	b.s = mustOpen(t, b.v, limit)
	b.pj, _, _, _ = journal.Open(b.pv, limit)
	b.hold("a new shelf")
	return b
}

// hold holds all that can be looked at, and the devices.
func (b *both) hold(what string) {
	b.t.Helper()
	if got, want := tell(b.s), b.p.tell(); got != want {
		b.t.Fatalf("P12.4: %s: %s", what, firstUnlike(got, want))
	}
	b.holdDevice(what)
}

func (b *both) holdDevice(what string) {
	b.t.Helper()
	if filesOf(b.v) != filesOf(b.pv) || b.v.Count() != b.pv.Count() {
		b.t.Fatalf("12.3: %s: %d operations, %.2000q, want %d, %.2000q", what, b.v.Count(), filesOf(b.v), b.pv.Count(), filesOf(b.pv))
	}
	c := b.s.Stat()
	if c.Journal != b.pj.Story().Good || c.Room != b.pj.Room() || b.s.Last() != b.pj.Last() {
		b.t.Fatalf("P12.5: %s: %+v, Last %d, want %d, %d, %d", what, c, b.s.Last(), b.pj.Story().Good, b.pj.Room(), b.pj.Last())
	}
}

// plainApply goes by P12.1.
func (b *both) plainApply(steps []api.Step) (api.Errno, int) {
	if len(steps) > 8192 {
		return api.ErrLong, 0
	}
	trial := b.p.clone()
	var entries []string
	for i, x := range steps {
		more, e := trial.do(x)
		if e != api.OK {
			return e, i
		}
		entries = append(entries, more...)
	}
	if e, i := trial.whole(steps); e != api.OK {
		return e, i
	}
	if _, e := b.pj.Commit(bodiesOf(packed(entries))); e != api.OK {
		return e, len(steps)
	}
	b.p = trial
	return api.OK, 0
}

// apply makes a transaction on both, and holds the answer.
func (b *both) apply(steps ...api.Step) (api.Errno, int) {
	b.t.Helper()
	want, wantN := b.plainApply(steps)
	if e, n := b.s.Apply(steps); e != want || n != wantN {
		b.t.Fatalf("P12.1: Apply of %d steps = %d, %d, want %d, %d\n%.2000q", len(steps), e, n, want, wantN, fmt.Sprint(steps))
	}
	return want, wantN
}

// compact makes both short.
func (b *both) compact() api.Errno {
	b.t.Helper()
	entries, after := b.p.compacted()
	want := b.pj.Compact(bodiesOf(packed(entries)))
	if want == api.OK {
		b.p = after
	}
	if e := b.s.Compact(); e != want {
		b.t.Fatalf("P12.2: Compact = %d, want %d", e, want)
	}
	return want
}

// again opens both over the bytes that they have.
func (b *both) again(limit int) {
	b.t.Helper()
	b.limit = limit
	b.v, b.pv = journal.NewDevice(b.v.Disk()), journal.NewDevice(b.pv.Disk())
	b.s = mustOpen(b.t, b.v, limit)
	b.pj, _, _, _ = journal.Open(b.pv, limit)
}

// want holds that a transaction is answered so.
func (b *both) want(what string, e api.Errno, n int, steps ...api.Step) {
	b.t.Helper()
	if got, at := b.apply(steps...); got != e || at != n {
		b.t.Errorf("%s: %d, %d, want %d, %d", what, got, at, e, n)
	}
}
