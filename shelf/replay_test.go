package shelf

import (
	"encoding/binary"
	"fmt"
	"hash/crc32"
	"strings"
	"testing"

	"graft/api"
	"graft/ark"
	"graft/journal"
	"graft/label"
)

// Journals that were made by hand, and a plain reading of P12.3.

// record is one of a journal's, as chapter 11 lays it.
func record(kind byte, number uint64, body string) string {
	front := binary.LittleEndian.AppendUint64([]byte{0x9e, kind}, number)
	front = binary.LittleEndian.AppendUint32(front, uint32(len(body)))
	return summed(string(front)) + summed(body)
}

func summed(s string) string { return s + four(int(crc32.ChecksumIEEE([]byte(s)))) }

func records(kind byte, bodies []string) string {
	var b strings.Builder
	for i, body := range bodies {
		b.WriteString(record(kind, uint64(i), body))
	}
	return b.String()
}

// history is what a journal holds: payloads of the base, and of each batch.
type history struct {
	gen     uint64
	first   uint64
	base    []string
	batches [][]string
}

// file is a history as a journal's file.
func (h history) file() string {
	first := string(binary.LittleEndian.AppendUint64(nil, h.first))
	out := record(1, h.gen, first) + records(2, h.base) + record(3, uint64(len(h.base)), "")
	for i, batch := range h.batches {
		out += records(4, batch) + record(5, h.first+uint64(i), four(len(batch)))
	}
	return out
}

func (h history) device() *journal.Device {
	return journal.NewDevice(api.Disk{Files: [2][]byte{[]byte(h.file())}})
}

// historyOf is what a device's journal holds.
func historyOf(t *testing.T, v *journal.Device) history {
	t.Helper()
	s, e, _, _ := journal.Replay(v.Disk())
	if e != api.OK {
		t.Fatalf("Replay: %d", e)
	}
	h := history{gen: uint64(s.Gen), first: uint64(s.First), base: textsOf(s.Base)}
	for _, batch := range s.Batches {
		h.batches = append(h.batches, textsOf(batch))
	}
	return h
}

// plainEntry is an entry as it was read.
type plainEntry struct {
	payload int
	ok      bool // it is one: not cut off, of a kind, its labels are some
	kind    byte
	data    string // an ark's
	number  int    // of the ark that a put takes
	step    api.Step
}

// plainCut takes bytes off a text.
func plainCut(s *string, n int, ok *bool) string {
	if n > len(*s) {
		*ok = false
		return ""
	}
	out := (*s)[:n]
	*s = (*s)[n:]
	return out
}

func plainNumber(s *string, ok *bool) int {
	b := plainCut(s, 4, ok)
	if !*ok {
		return 0
	}
	return int(binary.LittleEndian.Uint32([]byte(b)))
}

func plainText(s *string, ok *bool) string {
	n := plainNumber(s, ok)
	if !*ok {
		return ""
	}
	return plainCut(s, n, ok)
}

func plainLabel(s *string, ok *bool) api.Label {
	l, e, _ := label.ParseBase(plainText(s, ok))
	*ok = *ok && e == api.OK
	return l
}

// plainEntries is a transaction's entries, up to the first that is none.
func plainEntries(payloads []string) []plainEntry {
	var out []plainEntry
	for i, s := range payloads {
		for s != "" {
			x := plainEntry{payload: i, ok: true, kind: s[0]}
			s = s[1:]
			x.step.Kind = int(x.kind) - 1
			switch x.kind {
			case 1:
				x.data = plainText(&s, &x.ok)
			case 2:
				o := &x.step.Object
				o.Label = plainLabel(&s, &x.ok)
				for n := plainNumber(&s, &x.ok); n > 0 && x.ok; n-- {
					o.Refs = append(o.Refs, plainLabel(&s, &x.ok))
				}
				o.Maker = plainText(&s, &x.ok)
				if ca := plainCut(&s, 1, &x.ok); x.ok {
					o.Ca = api.Ca(ca[0])
				}
				x.number = plainNumber(&s, &x.ok)
			case 3:
				x.step.Label = plainLabel(&s, &x.ok)
			case 4:
				x.step.Same.Old = plainLabel(&s, &x.ok)
				x.step.Same.New = plainLabel(&s, &x.ok)
			case 5:
				x.step.Made.Key = plainText(&s, &x.ok)
				x.step.Made.Label = plainLabel(&s, &x.ok)
			case 6:
				x.step.Key = plainText(&s, &x.ok)
				x.step.Value = []byte(plainText(&s, &x.ok))
			case 7:
				x.step.Key = plainText(&s, &x.ok)
			default:
				x.ok = false
			}
			out = append(out, x)
			if !x.ok {
				return out
			}
		}
	}
	return out
}

// play goes by P12.3 for one transaction: the number of the payload with the fault.
func (p *plainState) play(payloads []string) (int, bool) {
	entries := plainEntries(payloads)
	var steps []api.Step
	for i, x := range entries {
		if !x.ok {
			return x.payload, false
		}
		if x.kind == 1 {
			_, e, _ := ark.Parse([]byte(x.data))
			if e != api.OK || p.arkNumber(x.data) >= 0 || i+1 == len(entries) || !entries[i+1].ok || entries[i+1].kind != 2 || entries[i+1].number != p.came {
				return x.payload, false
			}
			p.arks = append(p.arks, plainArk{p.came, x.data})
			p.came++
			continue
		}
		if x.kind == 2 {
			there := false
			for _, a := range p.arks {
				if a.number == x.number {
					there = true
					x.step.Object.Ark = []byte(a.data)
				}
			}
			if !there {
				return x.payload, false
			}
		}
		if done, e := p.do(x.step); e != api.OK || len(done) != 1 {
			return x.payload, false
		}
		steps = append(steps, x.step)
	}
	if e, _ := p.whole(steps); e != api.OK {
		return len(payloads), false
	}
	return 0, true
}

// verdict is an answer of Open.
type verdict struct {
	e     api.Errno
	batch int
	place int
}

func (x verdict) String() string { return fmt.Sprintf("%d, %d, %d", x.e, x.batch, x.place) }

// plainOpen is what a history comes to.
func plainOpen(h history) (plainState, verdict) {
	var p plainState
	if at, ok := p.play(h.base); !ok {
		return plainState{}, verdict{api.ErrState, 0, at}
	}
	for i, batch := range h.batches {
		if at, ok := p.play(batch); !ok {
			return plainState{}, verdict{api.ErrState, int(h.first) + i, at}
		}
	}
	return p, verdict{}
}

// holdOpen holds Open of a history against its plain reading, and answers what came of it.
func holdOpen(t *testing.T, what string, h history) verdict {
	t.Helper()
	v := h.device()
	p, want := plainOpen(h)
	s, e, batch, place := Open(v, 1<<26)
	got := verdict{e, batch, place}
	if got != want || (s == nil) != (e != api.OK) {
		t.Fatalf("P12.3: %s: Open = %s, want %s", what, got, want)
	}
	if v.Count() != 0 {
		t.Fatalf("P12.3: %s: %d operations", what, v.Count())
	}
	if s != nil && tell(s) != p.tell() {
		t.Fatalf("P12.3: %s: %s", what, firstUnlike(tell(s), p.tell()))
	}
	return want
}
