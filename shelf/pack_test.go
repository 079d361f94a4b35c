package shelf

import (
	"fmt"
	"slices"
	"strings"
	"testing"

	"graft/api"
	"graft/journal"
)

// sizes is how many bytes payloads have.
func sizes(payloads []string) []int {
	var out []int
	for _, p := range payloads {
		out = append(out, len(p))
	}
	return out
}

// filling is values whose entries have so many bytes in all.
func filling(n int) []api.Step {
	var out []api.Step
	for i := 0; n > 0; i++ {
		part := min(n, 60000)
		if rest := n - part; rest > 0 && rest < 100 {
			part -= 100 // an entry has some bytes at least
		}
		key := fmt.Sprintf("%04d", i)
		out = append(out, setTo(key, strings.Repeat("v", part-1-4-4-4)))
		n -= part
	}
	return out
}

// 12.3: payloads that end at 262144 bytes, one less, one more.
func TestPayloadEnds(t *testing.T) {
	tail := void("0000")
	end := len(voidEntry("0000"))
	for _, x := range []struct {
		n    int
		want []int
	}{
		{262143, []int{262143 + end}}, {262144, []int{262144, end}}, {262145, []int{262145, end}},
		{262144 - end, []int{262144}}, {262143 - end, []int{262143}}, {262145 - end, []int{262145}},
	} {
		b := begin(t, 1<<22)
		b.want("values", api.OK, 0, append(filling(x.n), tail)...)
		if got := sizes(journalPayloads(b)); !slices.Equal(got, x.want) {
			t.Errorf("12.3: %d bytes and %d: %v, want %v", x.n, end, got, x.want)
		}
		b.hold("a batch")
		b.again(1 << 22)
		b.hold("opened again")
	}
	for _, x := range []struct {
		n    int
		want []int
	}{{262143, []int{262143}}, {262144, []int{262144}}, {262145, []int{262145}}, {600000, []int{300000, 300000}}} {
		b := begin(t, 1<<22)
		b.want("values", api.OK, 0, filling(x.n)...)
		if got := sizes(journalPayloads(b)); !slices.Equal(got, x.want) {
			t.Errorf("12.3: %d bytes: %v, want %v", x.n, got, x.want)
		}
		if e := b.compact(); e != api.OK {
			t.Fatalf("P12.2: %d", e)
		}
		if got := sizes(historyOf(t, b.v).base); !slices.Equal(got, x.want) {
			t.Errorf("P12.2: %d bytes: %v, want %v", x.n, got, x.want)
		}
		b.hold("compacted")
	}
}

// 12.3: great arks end payloads, and their puts begin the next ones.
func TestGreatArks(t *testing.T) {
	b := begin(t, 1<<26)
	least := 262144 - 5 // an ark's entry has five bytes more
	for i, n := range []int{least/8*8 - 8, least / 8 * 8, least/8*8 + 8, api.MaxArk} {
		l := named("abcd"[i])
		b.want("an ark", api.OK, 0, put(l, sized(n, "x")), put(named("efgh"[i]), sized(n, "x"), l))
		b.hold("an ark")
	}
	b.want("several", api.OK, 0, put(named('i'), sized(262144, "y")), put(named('j'), sized(262144, "z")), setTo("k", strings.Repeat("v", 65536)))
	put0 := len(putEntry(objectWith(named('i'), nil), 0))
	if got, want := sizes(journalPayloads(b)), []int{262149, put0 + 262149, put0 + len(valueEntry("k", "")) + 65536}; !slices.Equal(got, want) {
		t.Errorf("12.3: %v, want %v", got, want)
	}
	b.hold("several")
	if e := b.compact(); e != api.OK {
		t.Errorf("P12.2: %d", e)
	}
	b.hold("compacted")
	b.again(1 << 26)
	b.hold("opened again")
}

// 12.3: the longest put.
func TestLongestPut(t *testing.T) {
	b := begin(t, 1<<24)
	name := strings.Repeat("n", 211)
	var refs []api.Label
	var steps []api.Step
	for _, l := range manyRefs(256) {
		l.Name = name
		refs = append(refs, l)
		steps = append(steps, put(l, fileOf("hi")))
	}
	o := objectWith(api.Label{Name: name}, fileOf("hi"), refs...)
	o.Maker, o.Ca = textOf(api.Label{Name: name}), 4
	b.want("256 references", api.OK, 0, append(steps, putOf(o))...)
	b.hold("256 references")
	b.again(1 << 24)
	b.hold("opened again")
	if got := historyOf(t, b.v).batches[0][0]; !strings.HasSuffix(got, putEntry(o, 0)) || len(putEntry(o, 0)) != 1+248+4+256*248+4+257+1+4 {
		t.Errorf("12.3: %d bytes", len(putEntry(o, 0)))
	}
}

// 12.3: every byte of a batch with an entry of each kind, laid down by hand.
func TestBytes(t *testing.T) {
	v := journal.NewDevice(api.Disk{})
	s := mustOpen(t, v, 1<<20)
	a, c := api.Label{Name: "a"}, api.Label{Hash: api.Hash{1}, Name: "c"}
	o := objectWith(c, fileOf("hi"), a, c)
	o.Maker, o.Ca = textOf(a), 3
	if e, n := s.Apply([]api.Step{put(a, fileOf("")), putOf(o), same(c, a), made("key", c), setTo("k", "val"), void("k"), drop(c)}); e != api.OK || n != 0 {
		t.Fatalf("P12.1: %d, %d", e, n)
	}
	zeros := strings.Repeat("0", 31)
	want := "\x01\x70\x00\x00\x00" + string(fileOf("")) +
		"\x02\x22\x00\x00\x00" + zeros + "0-a" + "\x00\x00\x00\x00" + "\x00\x00\x00\x00" + "\x00" + "\x00\x00\x00\x00" +
		"\x01\x78\x00\x00\x00" + string(fileOf("hi")) +
		"\x02\x22\x00\x00\x00" + zeros + "1-c" + "\x02\x00\x00\x00" + "\x22\x00\x00\x00" + zeros + "0-a" + "\x22\x00\x00\x00" + zeros + "1-c" +
		"\x2f\x00\x00\x00/graft/store/" + zeros + "0-a" + "\x03" + "\x01\x00\x00\x00" +
		"\x04\x22\x00\x00\x00" + zeros + "1-c" + "\x22\x00\x00\x00" + zeros + "0-a" +
		"\x05\x03\x00\x00\x00key" + "\x22\x00\x00\x00" + zeros + "1-c" +
		"\x06\x01\x00\x00\x00k\x03\x00\x00\x00val" +
		"\x07\x01\x00\x00\x00k" +
		"\x03\x22\x00\x00\x00" + zeros + "1-c"
	h := historyOf(t, v)
	if len(h.batches) != 1 || !slices.Equal(h.batches[0], []string{want}) {
		t.Errorf("12.3: %q, want %q", h.batches, want)
	}
	if e := s.Compact(); e != api.OK {
		t.Errorf("P12.2: %d", e)
	}
	want = "\x01\x70\x00\x00\x00" + string(fileOf("")) + "\x02\x22\x00\x00\x00" + zeros + "0-a" + "\x00\x00\x00\x00" + "\x00\x00\x00\x00" + "\x00" + "\x00\x00\x00\x00" +
		"\x04\x22\x00\x00\x00" + zeros + "1-c" + "\x22\x00\x00\x00" + zeros + "0-a"
	if h := historyOf(t, v); !slices.Equal(h.base, []string{want}) || h.gen != 2 || h.first != 2 || len(h.batches) != 0 {
		t.Errorf("P12.2: %q, want %q", h.base, want)
	}
}
