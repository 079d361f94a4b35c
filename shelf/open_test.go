package shelf

import (
	"fmt"
	"slices"
	"strings"
	"testing"

	"graft/api"
	"graft/journal"
)

// P12.3: journal.Open's errors, with its two numbers, and nothing was done.
func TestOpenJournalErrors(t *testing.T) {
	good := history{gen: 1, first: 1}.file()
	spoilt := []byte(history{gen: 1, first: 1, batches: [][]string{{"\x08"}}}.file())
	spoilt[60] ^= 1
	for _, x := range []struct {
		what  string
		files [2][]byte
		limit int
		want  verdict
	}{
		{"a limit of 63", [2][]byte{}, 63, verdict{api.ErrArg, 0, 0}}, {"a limit of 0", [2][]byte{}, 0, verdict{api.ErrArg, 0, 0}},
		{"a limit below 0", [2][]byte{}, -1 << 63, verdict{api.ErrArg, 0, 0}}, {"a limit above the greatest", [2][]byte{}, 1<<26 + 1, verdict{api.ErrArg, 0, 0}},
		{"a wrong limit and no journal", [2][]byte{{0}, {0}}, 63, verdict{api.ErrArg, 0, 0}},
		{"no journal", [2][]byte{{0}, nil}, 64, verdict{api.ErrJournal, 0, 0}}, {"no journal in file 1", [2][]byte{nil, {7}}, 1 << 26, verdict{api.ErrJournal, 1, 0}},
		{"a spoilt record, and a payload that is none", [2][]byte{nil, spoilt}, 1 << 20, verdict{api.ErrRecord, 1, 52}},
		{"two files of one generation", [2][]byte{[]byte(good), []byte(good)}, 1 << 20, verdict{api.ErrRecord, 1, 0}},
		{"a file that is too long", [2][]byte{nil, make([]byte, api.MaxRoom+1)}, 1 << 20, verdict{api.ErrLong, 1, 0}},
		{"the least limit", [2][]byte{}, 64, verdict{}}, {"the greatest", [2][]byte{}, 1 << 26, verdict{}},
		{"a limit below the file's length", [2][]byte{[]byte(history{gen: 1, first: 1, batches: [][]string{{voidOf(40)}}}.file())}, 64, verdict{}},
	} {
		v := journal.NewDevice(api.Disk{Files: x.files})
		s, e, a, b := Open(v, x.limit)
		if got := (verdict{e, a, b}); got != x.want || (s == nil) != (e != api.OK) || e != api.OK && v.Count() != 0 {
			t.Errorf("P12.3: %s: %s, %d operations, want %s", x.what, got, v.Count(), x.want)
		}
	}
	if s, e, a, b := Open(nil, 1<<20); s != nil || e != api.ErrArg || a != 0 || b != 0 {
		t.Errorf("P12.3: no device: %d, %d, %d", e, a, b)
	}
	if s, e, _, _ := Open(nil, 0); s != nil || e != api.ErrArg {
		t.Errorf("P12.3: no device and no limit: %d", e)
	}
}

// voidOf is a payload that comes to nothing, of some length.
func voidOf(n int) string { return valueEntry("k", strings.Repeat("v", n)) + voidEntry("k") }

// P12.3: journal.Open is done: its operations, and none beside them.
func TestOpenOperations(t *testing.T) {
	h := history{gen: 4, first: 9, base: []string{valueEntry("k", "v")}, batches: [][]string{{voidEntry("k")}}}
	for _, x := range [][2]string{{}, {"\x9e", ""}, {h.file(), ""}, {h.file() + "\x9e\x04", "\x9e"}, {history{gen: 3, first: 1, base: []string{"\x08"}}.file(), h.file()}} {
		d := api.Disk{Files: [2][]byte{[]byte(x[0]), []byte(x[1])}}
		v, w := journal.NewDevice(d), journal.NewDevice(d)
		s := mustOpen(t, v, 1000)
		j, _, _, _ := journal.Open(w, 1000)
		if filesOf(v) != filesOf(w) || v.Count() != w.Count() || s.Last() != j.Last() || s.Stat().Room != j.Room() {
			t.Errorf("P12.3: %q: %d operations, %q, want %d, %q", x, v.Count(), filesOf(v), w.Count(), filesOf(w))
		}
		for n := range v.Count() + 1 {
			a, _ := v.At(n, [2]int{1 << 30, 1 << 30})
			b, _ := w.At(n, [2]int{1 << 30, 1 << 30})
			if string(a.Files[0]) != string(b.Files[0]) || string(a.Files[1]) != string(b.Files[1]) {
				t.Errorf("P12.3: %q: operation %d", x, n)
			}
		}
	}
}

// What the faulty journals are made of.
var (
	hi    = string(fileOf("hi"))
	ho    = string(fileOf("ho"))
	thing = objectWith(named('a'), nil)
	other = objectWith(named('c'), nil)
)

// ready is a shelf with two objects of one ark, a same, a made and a value.
func ready() string {
	return arkEntry(hi) + putEntry(thing, 0) + putEntry(other, 0) + sameEntry(named('x'), named('a')) + madeEntry("m", named('a')) + valueEntry("k", "v")
}

// faulty is payloads behind ready, the number of the one with the fault, and whether the whole is at fault.
type faulty struct {
	what     string
	payloads []string
	at       int
}

func refersTo(o api.Object, l ...api.Label) api.Object {
	o.Refs = l
	return o
}

func objectNamed(letter byte, change func(o *api.Object)) api.Object {
	o := objectWith(named(letter), nil)
	if change != nil {
		change(&o)
	}
	return o
}

// faults is every fault that 12.3 names.
func faults() []faulty {
	d := objectNamed('d', nil)
	fresh := arkEntry(ho) + putEntry(d, 1)
	longName := "\x03" + text(strings.Repeat("0", 32)+"-"+strings.Repeat("n", 212))
	out := []faulty{
		{"no such byte", []string{"\x00"}, 0}, {"the byte 8", []string{"\x08"}, 0}, {"the byte 255", []string{fresh, "\xff"}, 1}, {"a byte behind an entry", []string{fresh + "\x09"}, 0},
		{"a label of one digit", []string{"\x03" + text("0")}, 0}, {"a label without a name", []string{"\x03" + text(strings.Repeat("0", 32)+"-")}, 0}, {"a label that is too long", []string{longName}, 0},
		{"a label's whole text", []string{"\x03" + text(textOf(named('a')))}, 0}, {"a same with a wrong Old", []string{"\x04" + text("x") + base(named('a'))}, 0},
		{"a same with a wrong New", []string{"\x04" + base(named('y')) + text("x")}, 0}, {"a made with a wrong label", []string{"\x05" + text("n") + text("x")}, 0},
		{"a put of no label", []string{"\x02" + text("x") + four(0) + text("") + "\x00" + four(0)}, 0}, {"a put with a reference that is no label", []string{"\x02" + base(named('d')) + four(1) + text("x") + text("") + "\x00" + four(0)}, 0},

		{"an ark that is no archive", []string{fresh, arkEntry(hi[:119]) + putEntry(objectNamed('e', nil), 2)}, 1}, {"an ark of no bytes", []string{arkEntry("") + putEntry(d, 1)}, 0},
		{"an ark that is there", []string{"", arkEntry(hi) + putEntry(d, 1)}, 1}, {"an ark that came just now", []string{fresh, arkEntry(ho) + putEntry(objectNamed('e', nil), 2)}, 1},
		{"an ark at the end", []string{fresh, "", arkEntry(string(fileOf("x")))}, 2}, {"an ark at the end of a payload, and no more", []string{arkEntry(ho), "", ""}, 0},
		{"an ark and a drop", []string{arkEntry(ho) + dropEntry(named('c'))}, 0}, {"an ark and a value, then the put", []string{arkEntry(ho), valueEntry("l", "w") + putEntry(d, 1)}, 0},
		{"an ark and an ark", []string{arkEntry(ho), arkEntry(string(fileOf("x"))) + putEntry(d, 1)}, 0}, {"an ark and a put of another", []string{arkEntry(ho), putEntry(d, 0)}, 0},
		{"an ark and a put of one that is none", []string{arkEntry(ho), putEntry(d, 2)}, 0}, {"an ark and a put of the greatest number", []string{arkEntry(ho), putEntry(d, 1<<32-1)}, 0},
		{"an ark and no such byte", []string{arkEntry(ho), "\x08"}, 0}, {"an ark and the byte 0", []string{arkEntry(ho), "\x00"}, 0},
		{"an ark and a put without its last byte", []string{arkEntry(ho), putEntry(d, 1)[:len(putEntry(d, 1))-1]}, 0}, {"an ark and a put's byte alone", []string{arkEntry(ho), "\x02"}, 0},
		{"an ark and a put of no label", []string{arkEntry(ho), "\x02" + text("x") + four(0) + text("") + "\x00" + four(1)}, 0},
		{"an ark and a put whose reference is no label", []string{arkEntry(ho), "\x02" + base(named('d')) + four(1) + text("x") + text("") + "\x00" + four(1)}, 0},

		{"a put of an ark that is not there", []string{"", putEntry(d, 1)}, 1}, {"a put of the greatest number", []string{putEntry(d, 1<<32-1)}, 0},
		{"a put of an ark that has gone", []string{dropEntry(named('a')) + dropEntry(named('c')), putEntry(d, 0)}, 1},
		{"a put that changes nothing", []string{putEntry(thing, 0)}, 0}, {"a put of what came just now", []string{fresh, putEntry(d, 1)}, 1},
		{"a put that clashes", []string{arkEntry(ho), putEntry(objectWith(api.Label{Hash: named('a').Hash, Name: "b"}, nil), 1)}, 1},
		{"a put of another object", []string{arkEntry(ho), putEntry(thing, 1)}, 1}, {"a put with another Ca", []string{putEntry(objectNamed('a', func(o *api.Object) { o.Ca = 1 }), 0)}, 0},
		{"references out of order", []string{putEntry(refersTo(d, named('c'), named('a')), 0)}, 0}, {"a reference twice", []string{arkEntry(ho), putEntry(refersTo(d, named('a'), named('a')), 1)}, 1},
		{"257 references", []string{putEntry(refersTo(d, manyRefs(257)...), 0)}, 0}, {"a maker that is none", []string{arkEntry(ho), putEntry(objectNamed('d', func(o *api.Object) { o.Maker = "x" }), 1)}, 1},
		{"Ca 5", []string{arkEntry(ho), putEntry(objectNamed('d', func(o *api.Object) { o.Ca = 5 }), 1)}, 1}, {"Ca 255", []string{putEntry(objectNamed('d', func(o *api.Object) { o.Ca = 255 }), 0)}, 0},

		{"a drop of none", []string{dropEntry(named('d'))}, 0}, {"a drop of another name", []string{dropEntry(api.Label{Hash: named('a').Hash, Name: "b"})}, 0}, {"a drop twice", []string{dropEntry(named('c')), dropEntry(named('c'))}, 1},
		{"a same of no object", []string{sameEntry(named('y'), named('d'))}, 0}, {"a same that changes nothing", []string{sameEntry(named('x'), named('a'))}, 0}, {"a same that is another", []string{sameEntry(named('x'), named('c'))}, 0},
		{"a made without a key", []string{madeEntry("", named('a'))}, 0}, {"a made with a long key", []string{madeEntry(strings.Repeat("k", 256), named('a'))}, 0}, {"a made of no object", []string{madeEntry("n", named('d'))}, 0},
		{"a made that changes nothing", []string{madeEntry("m", named('a'))}, 0}, {"a made that is another", []string{madeEntry("m", named('c'))}, 0},
		{"a value without a key", []string{valueEntry("", "v")}, 0}, {"a value with a long key", []string{valueEntry(strings.Repeat("k", 256), "v")}, 0}, {"a long value", []string{valueEntry("l", strings.Repeat("v", 65537))}, 0},
		{"a void of none", []string{voidEntry("l")}, 0}, {"a void without a key", []string{voidEntry("")}, 0}, {"a void twice", []string{voidEntry("k"), "", voidEntry("k")}, 2},

		{"an object that lacks another", []string{putEntry(refersTo(d, named('e')), 0)}, 1}, {"one of two lacks another", []string{putEntry(refersTo(d, named('e')), 0), putEntry(refersTo(objectNamed('e', nil), named('d'), named('f')), 0), valueEntry("l", "")}, 3},
		{"a drop of what is needed", []string{putEntry(refersTo(d, named('c')), 0) + dropEntry(named('c'))}, 1}, {"a lack, and a fault behind it", []string{putEntry(refersTo(d, named('e')), 0), "", "\x08"}, 2},
	}
	for _, whole := range []string{fresh, putEntry(refersTo(d, named('a'), named('c')), 0), dropEntry(named('c')), sameEntry(named('y'), named('a')), madeEntry("n", named('c')), valueEntry("l", "w"), voidEntry("k")} {
		for n := 1; n < len(whole); n++ {
			if whole[0] != 1 || n != len(arkEntry(ho)) {
				out = append(out, faulty{fmt.Sprintf("the first %d bytes of %.20q", n, whole), []string{valueEntry("z", ""), whole[:n]}, 1})
			}
		}
	}
	return out
}

// P12.3: each fault, in a batch and in the base, with its two numbers.
func TestFaults(t *testing.T) {
	for _, x := range faults() {
		inBatch := history{gen: 2, first: 7, batches: [][]string{{ready()}, nil, x.payloads, {"\x08"}}}
		if got := holdOpen(t, x.what, inBatch); got != (verdict{api.ErrState, 9, x.at}) {
			t.Errorf("P12.3: %s: %s, want batch 9, payload %d", x.what, got, x.at)
		}
		behind := history{gen: 2, first: 7, base: []string{ready()}, batches: [][]string{x.payloads}}
		if got := holdOpen(t, x.what, behind); got != (verdict{api.ErrState, 7, x.at}) {
			t.Errorf("P12.3: %s: %s, want batch 7, payload %d", x.what, got, x.at)
		}
		inBase := history{gen: 2, first: 7, base: append([]string{ready(), ""}, x.payloads...), batches: [][]string{{"\x08"}}}
		if got := holdOpen(t, x.what, inBase); got != (verdict{api.ErrState, 0, x.at + 2}) {
			t.Errorf("P12.3: %s: %s, want base, payload %d", x.what, got, x.at+2)
		}
	}
}

// P12.3: what is no fault, though it looks like one.
func TestNoFaults(t *testing.T) {
	d := objectNamed('d', nil)
	ring := []string{putEntry(refersTo(d, named('e')), 0), putEntry(refersTo(objectNamed('e', nil), named('d')), 0)}
	for _, x := range []struct {
		what     string
		payloads []string
	}{
		{"no payloads", nil}, {"payloads without entries", []string{"", "", ""}}, {"an ark, payloads without entries, the put", []string{arkEntry(ho), "", "", putEntry(d, 1)}},
		{"a value that was so already", []string{valueEntry("k", "v"), valueEntry("k", "v")}}, {"a ring", ring}, {"a ring the other way", []string{ring[1], ring[0]}},
		{"an ark that has gone and comes again", []string{dropEntry(named('a')) + dropEntry(named('c')) + arkEntry(hi) + putEntry(d, 1)}},
		{"one that lacked something and has gone", []string{putEntry(refersTo(d, named('e')), 0) + dropEntry(named('d'))}}, {"every entry in a payload of its own", []string{arkEntry(ho), putEntry(d, 1), sameEntry(named('y'), named('d')), madeEntry("n", named('d')), valueEntry("l", ""), voidEntry("l"), dropEntry(named('d'))}},
		{"256 references", append(slices.Clone(manyPuts(256)), putEntry(refersTo(objectWith(api.Label{Name: "all"}, nil), manyRefs(256)...), 0))},
		{"the same value again and again", slices.Repeat([]string{strings.Repeat(valueEntry("k", "v"), 20)}, 500)},
	} {
		for _, h := range []history{
			{gen: 1, first: 1, batches: [][]string{{ready()}, x.payloads}}, {gen: 1, first: 1, base: []string{ready()}, batches: [][]string{x.payloads}},
			{gen: 1 << 62, first: 1 << 62, base: append([]string{ready()}, x.payloads...)},
		} {
			if got := holdOpen(t, x.what, h); got != (verdict{}) {
				t.Errorf("P12.3: %s: %s", x.what, got)
			}
		}
	}
}

func manyPuts(n int) []string {
	var out []string
	for _, l := range manyRefs(n) {
		out = append(out, putEntry(objectWith(l, nil), 0))
	}
	return out
}

// P12.3: a history cut off at every byte of every payload.
func TestEveryCut(t *testing.T) {
	d, e := objectNamed('d', func(o *api.Object) { o.Maker, o.Ca = textOf(named('m')), 3 }), objectNamed('e', nil)
	payloads := []string{arkEntry(ho), putEntry(refersTo(d, named('a'), named('d')), 1) + sameEntry(named('y'), named('d')), madeEntry("n", named('d')) + valueEntry("l", "w") + putEntry(e, 1), voidEntry("l") + dropEntry(named('e')) + dropEntry(named('c'))}
	taken, refused := 0, 0
	for i, whole := range payloads {
		for n := range len(whole) + 1 {
			cut := slices.Clone(payloads)
			cut[i] = whole[:n]
			for _, h := range []history{{gen: 1, first: 5, batches: [][]string{{ready()}, cut}}, {gen: 1, first: 5, base: append([]string{ready()}, cut...)}, {gen: 1, first: 5, base: []string{ready()}, batches: [][]string{cut[:i+1]}}} {
				if holdOpen(t, fmt.Sprintf("payload %d, %d bytes", i, n), h) == (verdict{}) {
					taken++
				} else {
					refused++
				}
			}
		}
	}
	if taken < 12 || refused < 500 {
		t.Errorf("%d taken, %d refused", taken, refused)
	}
}

// P12.3, P12.9: histories of which something was turned.
func TestTurnedHistories(t *testing.T) {
	r := sourceOf(1)
	verdicts := map[api.Errno]int{}
	for range 4000 {
		b := begin(t, 1<<20)
		anyScript(r, b, 1+r.IntN(8))
		h := historyOf(t, b.v)
		for range 1 + r.IntN(2) {
			turn(r, &h)
		}
		verdicts[holdOpen(t, "turned", h).e]++
	}
	if verdicts[api.OK] < 100 || verdicts[api.ErrState] < 1000 {
		t.Errorf("%v", verdicts)
	}
}

// TestGreatBase: P12.3: a base may have more than 8192 entries.
func TestGreatBase(t *testing.T) {
	b := begin(t, 1<<26)
	steps := []api.Step{put(named('a'), fileOf("hi"))}
	for i := range 8191 {
		steps = append(steps, same(numbered(i), named('a')))
	}
	b.want("sames", api.OK, 0, steps...)
	steps = nil
	for i := range 2000 {
		steps = append(steps, made(fmt.Sprint(i), named('a')))
	}
	b.want("mades", api.OK, 0, steps...)
	if e := b.compact(); e != api.OK {
		t.Fatalf("P12.2: %d", e)
	}
	b.hold("compacted")
	b.again(1 << 26)
	b.hold("opened again")
	if n := len(plainEntries(historyOf(t, b.v).base)); n != 10193 {
		t.Errorf("%d entries", n)
	}
}
