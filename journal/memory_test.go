package journal

import (
	"slices"
	"strings"
	"testing"

	"graft/api"
)

// stampable is a list with the room behind it.
type stampable interface {
	stamp(v int)
	bears(v int) bool
}

type octets []byte

func (l octets) stamp(v int) {
	for i := range l {
		l[i] = byte(v)
	}
}

func (l octets) bears(v int) bool {
	return !slices.ContainsFunc(l, func(x byte) bool { return x != byte(v) })
}

// bodyList is a list of bodies: a new body of some length is laid into each place.
type bodyList [][]byte

func (l bodyList) stamp(v int) {
	for i := range l {
		l[i] = make([]byte, v)
	}
}

func (l bodyList) bears(v int) bool {
	return !slices.ContainsFunc(l, func(x []byte) bool { return len(x) != v })
}

type batchList [][][]byte

func (l batchList) stamp(v int) {
	for i := range l {
		l[i] = make([][]byte, v)
	}
}

func (l batchList) bears(v int) bool {
	return !slices.ContainsFunc(l, func(x [][]byte) bool { return len(x) != v })
}

// roomsOf is the lists within values, each with the room behind it, the inner ones first.
func roomsOf(values ...any) []stampable {
	var out []stampable
	for _, v := range values {
		switch x := v.(type) {
		case []byte:
			out = append(out, octets(x[:cap(x)]))
		case [][]byte:
			for _, b := range x[:cap(x)] {
				out = append(out, roomsOf(b)...)
			}
			out = append(out, bodyList(x[:cap(x)]))
		case [][][]byte:
			for _, b := range x[:cap(x)] {
				out = append(out, roomsOf(b)...)
			}
			out = append(out, batchList(x[:cap(x)]))
		case api.Disk:
			out = append(out, roomsOf(x.Files[0], x.Files[1])...)
		case api.Story:
			out = append(out, roomsOf(x.Base, x.Batches)...)
		default:
			panic("no list")
		}
	}
	return out
}

// apart holds that no two lists share memory: what is written into one, or behind it, shows in no other.
func apart(t *testing.T, values ...any) {
	t.Helper()
	rooms := roomsOf(values...)
	if len(rooms) > 255 {
		t.Fatalf("%d lists are too many to be told apart", len(rooms))
	}
	for i, l := range rooms {
		l.stamp(i + 1)
	}
	for i, l := range rooms {
		if !l.bears(i + 1) {
			t.Errorf("list %d of %d shares memory with another one: %T", i, len(rooms), l)
		}
	}
}

// roomy is bytes with room behind them in which something stands.
func roomy(text string) []byte {
	return append([]byte(text), "behind"...)[:len(text)]
}

func roomyBodies(texts ...string) [][]byte {
	out := make([][]byte, 0, len(texts)+2)
	for _, text := range texts {
		out = append(out, roomy(text))
	}
	return append(out, []byte("one"), []byte("two"))[:len(texts)]
}

// wholeBytes is bytes and what stands behind them.
func wholeBytes(b []byte) string { return string(b[:cap(b)]) }

func wholeBodies(l [][]byte) string {
	var out []string
	for _, b := range l[:cap(l)] {
		out = append(out, wholeBytes(b))
	}
	return strings.Join(out, "|")
}

// P11.1: a disk that is handed in is copied, and stays as it was.
func TestMemoryNewDevice(t *testing.T) {
	d := api.Disk{Files: [2][]byte{roomy("abc"), roomy("de")}}
	before := wholeBodies(d.Files[:])
	v := NewDevice(d)
	v.Append(0, []byte("xyz"))
	v.Cut(0, 1)
	v.Append(0, []byte("uvw"))
	v.Append(1, []byte("q"))
	if wholeBodies(d.Files[:]) != before {
		t.Errorf("P11.1: what was handed in has changed: %q", wholeBodies(d.Files[:]))
	}
	for i := range d.Files {
		octets(d.Files[i][:cap(d.Files[i])]).stamp('!')
	}
	first, _ := v.At(0, [2]int{})
	if filesOf(v.Disk()) != [2]string{"auvw", "deq"} || filesOf(first) != [2]string{"abc", "de"} {
		t.Errorf("P11.1: what was handed in is kept: %q", filesOf(v.Disk()))
	}
}

// P11.2: what is appended is copied, and stays as it was.
func TestMemoryAppend(t *testing.T) {
	v := NewDevice(api.Disk{})
	p := roomy("abc")
	before := wholeBytes(p)
	v.Append(0, p)
	v.Append(0, []byte("more"))
	v.Cut(0, 2)
	v.Append(0, []byte("again"))
	if wholeBytes(p) != before {
		t.Errorf("P11.2: what was handed in has changed: %q", wholeBytes(p))
	}
	octets(p[:cap(p)]).stamp('!')
	first, _ := v.At(1, [2]int{9, 9})
	if filesOf(v.Disk())[0] != "abagain" || filesOf(first)[0] != "abc" {
		t.Errorf("P11.2: what was handed in is kept: %q", filesOf(v.Disk()))
	}
}

// What a device hands out is new memory each time.
func TestMemoryDisks(t *testing.T) {
	v := NewDevice(diskOf("abc", "de"))
	v.Append(0, []byte("xy"))
	v.Append(1, []byte("z"))
	v.Sync(0)
	var all []any
	for n := range v.Count() + 1 {
		for _, keep := range [][2]int{{}, {1, 1}, {9, 9}} {
			d, _ := v.At(n, keep)
			all = append(all, d)
		}
		all = append(all, v.Disk())
	}
	apart(t, all...)
	safe, _ := v.At(3, [2]int{})
	if filesOf(v.Disk()) != [2]string{"abcxy", "dez"} || filesOf(safe) != [2]string{"abcxy", "de"} {
		t.Errorf("what was written into answers shows in later ones: %q", filesOf(v.Disk()))
	}
}

// P11.5: a disk stays as it was, and its story has no memory in common with it.
func TestMemoryReplay(t *testing.T) {
	text, _ := small()
	for _, files := range [][2]string{{text, ""}, {headOf(1, 1) + baseOf("old"), text + "\x9e"}, {text, "\x00"}, {text, text}} {
		d := api.Disk{Files: [2][]byte{roomy(files[0]), roomy(files[1])}}
		before := wholeBodies(d.Files[:])
		a, e, _, _ := Replay(d)
		b, _, _, _ := Replay(d)
		if wholeBodies(d.Files[:]) != before {
			t.Errorf("P11.5: what was handed in has changed: %q", filesOf(d))
		}
		if tell(a) != tell(b) || (e != api.OK) != (len(a.Base) == 0) {
			t.Errorf("P11.5: two answers differ: %s, %s", tell(a), tell(b))
		}
		apart(t, d, a, b)
	}
}

// P11.7, P11.8: what is handed in stays as it was and is not kept.
func TestMemoryCalls(t *testing.T) {
	v := NewDevice(api.Disk{})
	j, _, _, _ := Open(v, 1000)
	for i, do := range []func([][]byte){
		func(l [][]byte) { j.Commit(l) },
		func(l [][]byte) { j.Compact(l) },
		func(l [][]byte) { j.Commit(append(l[:1:1], make([]byte, 2000))) },
	} {
		l := roomyBodies("a", "", "bc")
		before := wholeBodies(l)
		do(l)
		if wholeBodies(l) != before {
			t.Errorf("call %d: what was handed in has changed: %s", i, wholeBodies(l))
		}
		told := tell(j.Story())
		for _, b := range l[:cap(l)] {
			octets(b[:cap(b)]).stamp('!')
		}
		bodyList(l[:cap(l)]).stamp(3)
		if tell(j.Story()) != told {
			t.Errorf("call %d: what was handed in is kept: %s", i, tell(j.Story()))
		}
	}
	if s := j.Story(); len(s.Base) != 3 || string(s.Base[2]) != "bc" {
		t.Errorf("%s", tell(s))
	}
}

// P11.9: what a journal hands out is new memory each time, its device's too.
func TestMemoryStories(t *testing.T) {
	v := NewDevice(api.Disk{})
	j, _, _, _ := Open(v, 1000)
	j.Compact(bodiesOf("base", "", "more"))
	j.Commit(bodiesOf("a", "b"))
	j.Commit(nil)
	j.Commit(bodiesOf("", "cd"))
	told, disk := tell(j.Story()), filesOf(v.Disk())
	all := []any{j.Story(), j.Story(), v.Disk()}
	for range 2 {
		for _, batch := range j.Each() {
			all = append(all, batch)
			for _, inner := range j.Each() {
				all = append(all, inner)
				break
			}
		}
	}
	apart(t, all...)
	if tell(j.Story()) != told || filesOf(v.Disk()) != disk {
		t.Errorf("P11.9: what was written into answers shows in later ones: %s", tell(j.Story()))
	}
}

// P11.9: what is written into a batch while it is gone over shows in no other.
func TestMemoryEach(t *testing.T) {
	j, _, _, _ := Open(NewDevice(api.Disk{}), 1000)
	j.Commit(bodiesOf("a", "b"))
	j.Commit(bodiesOf("c", "d"))
	for range 2 {
		for n, batch := range j.Each() {
			if want := [][]string{{"a", "b"}, {"c", "d"}}[n-1]; !slices.Equal(textsOf(batch), want) {
				t.Errorf("P11.9: batch %d: %q, want %q", n, batch, want)
			}
			for _, l := range roomsOf(batch) {
				l.stamp('!')
			}
		}
	}
}

// What is handed in may share memory within itself.
func TestMemoryShared(t *testing.T) {
	text := []byte("abcdef")
	v := NewDevice(api.Disk{Files: [2][]byte{text, text[2:]}})
	v.Append(0, text[1:3])
	v.Cut(1, 1)
	if filesOf(v.Disk()) != [2]string{"abcdefbc", "c"} {
		t.Errorf("P11.2: %q", filesOf(v.Disk()))
	}
	whole := []byte(headOf(1, 1) + baseOf("x"))
	if got := replayed(api.Disk{Files: [2][]byte{whole, whole}}); got != refusal(api.ErrRecord, 1, 0) {
		t.Errorf("P11.5: %v", got)
	}
	j, w := fresh(t, 1000)
	j.Commit([][]byte{text, text[1:4], text[:0], text})
	j.Compact([][]byte{text[:2], text[:3]})
	if string(text) != "abcdef" || kept(j.Story()) != keeping([]string{"ab", "abc"}, nil) {
		t.Errorf("P11.8: %q, %s", text, kept(j.Story()))
	}
	d, _ := w.At(4, [2]int{})
	if s, _, _, _ := Replay(d); kept(s) != keeping(nil, [][]string{{"abcdef", "bcd", "", "abcdef"}}) {
		t.Errorf("P11.7: %s", kept(s))
	}
}

// nil and empty lists are the same.
func TestNilAndEmpty(t *testing.T) {
	a, b := openBoth(t, [2]string{}, 500), openBoth(t, [2]string{}, 500)
	a.j.Commit(nil)
	b.j.Commit([][]byte{})
	a.j.Commit([][]byte{nil})
	b.j.Commit([][]byte{{}})
	if filesOf(a.v.Disk()) != filesOf(b.v.Disk()) {
		t.Errorf("%q, %q", filesOf(a.v.Disk()), filesOf(b.v.Disk()))
	}
	a.j.Compact(nil)
	b.j.Compact([][]byte{})
	if filesOf(a.v.Disk()) != filesOf(b.v.Disk()) || a.v.Count() != b.v.Count() {
		t.Errorf("%q, %q", filesOf(a.v.Disk()), filesOf(b.v.Disk()))
	}
	if x, y := replayed(api.Disk{}), replayed(api.Disk{Files: [2][]byte{{}, {}}}); x != y {
		t.Errorf("%v, %v", x, y)
	}
}
