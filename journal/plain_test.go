package journal

import (
	"encoding/binary"
	"fmt"
	"hash/crc32"
	"math/rand/v2"
	"strings"
	"testing"

	"graft/api"
)

// Plain readings of the chapter, with files as strings and sums by the library, that the package is held against.

func sourceOf(seed uint64) *rand.Rand { return rand.New(rand.NewPCG(seed, 11)) }

// rec is a record, as the chapter's table lays it.
func rec(kind byte, number uint64, body string) string {
	front := binary.LittleEndian.AppendUint64([]byte{0x9e, kind}, number)
	front = binary.LittleEndian.AppendUint32(front, uint32(len(body)))
	return summed(string(front)) + summed(body)
}

// summed is a text with its sum behind it.
func summed(text string) string {
	return text + string(binary.LittleEndian.AppendUint32(nil, crc32.ChecksumIEEE([]byte(text))))
}

func eight(n uint64) string { return string(binary.LittleEndian.AppendUint64(nil, n)) }

func four(n int) string { return string(binary.LittleEndian.AppendUint32(nil, uint32(n))) }

func headOf(gen, first uint64) string { return rec(1, gen, eight(first)) }

func commitOf(number uint64, n int) string { return rec(5, number, four(n)) }

// recs is records of one kind, numbered from 0 on.
func recs(kind byte, bodies ...string) string {
	var b strings.Builder
	for i, body := range bodies {
		b.WriteString(rec(kind, uint64(i), body))
	}
	return b.String()
}

func baseOf(bodies ...string) string {
	return recs(2, bodies...) + rec(3, uint64(len(bodies)), "")
}

func batchOf(number uint64, bodies ...string) string {
	return recs(4, bodies...) + commitOf(number, len(bodies))
}

// plainFile is what reading a file came to.
type plainFile struct {
	spoilt  bool
	at      int // where reading ended
	live    bool
	good    int
	gen     uint64
	first   uint64
	base    []string
	batches [][]string
}

// plainRead goes by P11.4, word by word. What may stand at a place hangs on the kind of the record ahead of it.
func plainRead(data string) plainFile {
	var (
		f     plainFile
		last  byte // the kind of the record ahead, 0 at the file's beginning
		open  []string
		whole = map[byte]string{0: "\x01", 1: "\x02\x03", 2: "\x02\x03", 3: "\x04\x05", 4: "\x04\x05", 5: "\x04\x05"}
	)
	for f.at < len(data) {
		here := data[f.at:]
		if here[0] != 0x9e {
			f.spoilt = true
			return f
		}
		if len(here) < 18 {
			return f
		}
		kind, number := here[1], binary.LittleEndian.Uint64([]byte(here[2:10]))
		length := int(binary.LittleEndian.Uint32([]byte(here[10:14])))
		may := here[:18] == summed(here[:14]) && strings.IndexByte(whole[last], kind) >= 0
		switch kind {
		case 1:
			may = may && number >= 1 && number <= 1<<62 && length == 8
		case 2:
			may = may && number == uint64(len(f.base)) && number < 8192 && length <= 2097152
		case 3:
			may = may && number == uint64(len(f.base)) && length == 0
		case 4:
			may = may && number == uint64(len(open)) && number < 8192 && length <= 2097152
		case 5:
			may = may && number == f.first+uint64(len(f.batches)) && number <= 1<<62 && length == 4
		}
		if !may {
			f.spoilt = true
			return f
		}
		if len(here) < 22+length {
			return f
		}
		body := here[18 : 18+length]
		if here[18:22+length] != summed(body) ||
			kind == 1 && (body == eight(0) || binary.LittleEndian.Uint64([]byte(body)) > 1<<62) ||
			kind == 5 && body != four(len(open)) {
			f.spoilt = true
			return f
		}
		f.at += 22 + length
		switch kind {
		case 1:
			f.gen, f.first = number, binary.LittleEndian.Uint64([]byte(body))
		case 2:
			f.base = append(f.base, body)
		case 3:
			f.live, f.good = true, f.at
		case 4:
			open = append(open, body)
		case 5:
			f.batches, open, f.good = append(f.batches, open), nil, f.at
		}
		last = kind
	}
	return f
}

// verdict is an answer of Replay: told is the whole story, kept its base and batches.
type verdict struct {
	told string
	kept string
	e    api.Errno
	file int
	at   int
}

// plainReplay goes by P11.5.
func plainReplay(files [2]string) verdict {
	var read [2]plainFile
	for i, data := range files {
		if len(data) > 1<<26 {
			return refusal(api.ErrLong, i, 0)
		}
		read[i] = plainRead(data)
		switch {
		case read[i].spoilt && read[i].at == 0:
			return refusal(api.ErrJournal, i, 0)
		case read[i].spoilt:
			return refusal(api.ErrRecord, i, read[i].at)
		}
	}
	if read[0].live && read[1].live && read[0].gen == read[1].gen {
		return refusal(api.ErrRecord, 1, 0)
	}
	for i, f := range read {
		if f.live && !(read[1-i].live && read[1-i].gen > f.gen) {
			return verdict{told: telling(i, f.good, f.gen, f.first, f.base, f.batches), kept: keeping(f.base, f.batches)}
		}
	}
	return verdict{told: telling(-1, 0, 0, 0, nil, nil), kept: keeping(nil, nil)}
}

func refusal(e api.Errno, file, at int) verdict {
	return verdict{telling(0, 0, 0, 0, nil, nil), keeping(nil, nil), e, file, at}
}

func telling(file, good int, gen, first uint64, base []string, batches [][]string) string {
	return fmt.Sprintf("file %d, good %d, generation %d, first %d, %s", file, good, gen, first, keeping(base, batches))
}

func keeping(base []string, batches [][]string) string {
	return fmt.Sprintf("base %q, batches %q", base, batches)
}

// tell is a story as a text.
func tell(s api.Story) string {
	return telling(s.File, s.Good, uint64(s.Gen), uint64(s.First), textsOf(s.Base), batchTexts(s.Batches))
}

func textsOf(bodies [][]byte) []string {
	var out []string
	for _, b := range bodies {
		out = append(out, string(b))
	}
	return out
}

func batchTexts(batches [][][]byte) [][]string {
	var out [][]string
	for _, b := range batches {
		out = append(out, textsOf(b))
	}
	return out
}

func bodiesOf(texts ...string) [][]byte {
	var out [][]byte
	for _, text := range texts {
		out = append(out, []byte(text))
	}
	return out
}

func diskOf(files ...string) api.Disk {
	var d api.Disk
	for i, data := range files {
		d.Files[i] = []byte(data)
	}
	return d
}

func filesOf(d api.Disk) [2]string { return [2]string{string(d.Files[0]), string(d.Files[1])} }

func replayed(d api.Disk) verdict {
	s, e, file, at := Replay(d)
	return verdict{tell(s), keeping(textsOf(s.Base), batchTexts(s.Batches)), e, file, at}
}

// plainDevice is what its files were behind each operation: a list of pictures.
type plainDevice struct {
	pictures []picture
}

type picture struct {
	files [2]string
	safe  [2]int
}

func plainDeviceOf(files [2]string) *plainDevice {
	return &plainDevice{[]picture{{files, [2]int{len(files[0]), len(files[1])}}}}
}

func (v *plainDevice) now() picture { return v.pictures[len(v.pictures)-1] }

func (v *plainDevice) count() int { return len(v.pictures) - 1 }

func (v *plainDevice) append(file int, p string) api.Errno {
	if file < 0 || file > 1 {
		return api.ErrArg
	}
	x := v.now()
	if x.files[file] += p; len(x.files[file]) > 67108864 {
		return api.ErrLong
	}
	v.pictures = append(v.pictures, x)
	return api.OK
}

func (v *plainDevice) sync(file int) api.Errno {
	if file < 0 || file > 1 {
		return api.ErrArg
	}
	x := v.now()
	x.safe[file] = len(x.files[file])
	v.pictures = append(v.pictures, x)
	return api.OK
}

func (v *plainDevice) cut(file, n int) api.Errno {
	if file < 0 || file > 1 || n < 0 || n > len(v.now().files[file]) {
		return api.ErrArg
	}
	x := v.now()
	x.files[file] = x.files[file][:n]
	if x.safe[file] > n {
		x.safe[file] = n
	}
	v.pictures = append(v.pictures, x)
	return api.OK
}

// left is what a power failure leaves.
func (v *plainDevice) left(n int, keep [2]int) ([2]string, api.Errno) {
	if n < 0 || n > v.count() || keep[0] < 0 || keep[1] < 0 {
		return [2]string{}, api.ErrArg
	}
	x := v.pictures[n]
	for i := range x.files {
		if loose := len(x.files[i]) - x.safe[i]; keep[i] < loose {
			x.files[i] = x.files[i][:x.safe[i]+keep[i]]
		}
	}
	return x.files, api.OK
}

// loose is how many loose bytes the files have when n operations are done.
func (v *plainDevice) loose(n int) [2]int {
	x := v.pictures[n]
	return [2]int{len(x.files[0]) - x.safe[0], len(x.files[1]) - x.safe[1]}
}

// holdDevice holds a device against a plain one, at every moment.
func holdDevice(t *testing.T, what string, v *Device, p *plainDevice) {
	t.Helper()
	if v.Count() != p.count() || filesOf(v.Disk()) != p.now().files {
		t.Fatalf("%s: %d operations, %q, want %d, %q", what, v.Count(), filesOf(v.Disk()), p.count(), p.now().files)
	}
	for n := -1; n <= p.count()+1; n++ {
		var loose [2]int
		if n >= 0 && n <= p.count() {
			loose = p.loose(n)
		}
		for _, a := range keeps(loose[0]) {
			for _, b := range keeps(loose[1]) {
				want, wantE := p.left(n, [2]int{a, b})
				if d, e := v.At(n, [2]int{a, b}); e != wantE || filesOf(d) != want {
					t.Fatalf("P11.3: %s: At(%d, %d, %d) = %q, %d, want %q, %d", what, n, a, b, filesOf(d), e, want, wantE)
				}
			}
		}
	}
}

// keeps is numbers of bytes to be kept, about those that there are.
func keeps(loose int) []int {
	return []int{-1, 0, 1, loose / 2, loose - 1, loose, loose + 1, 1<<63 - 1, -1 << 63}
}

// plainJournal goes by P11.6 to P11.9 on a plain device.
type plainJournal struct {
	device  *plainDevice
	limit   int
	live    int
	gen     uint64
	first   uint64
	base    []string
	batches [][]string
}

// plainOpen is nil, if the disk or the limit is refused.
func plainOpen(v *plainDevice, limit int) *plainJournal {
	files := v.now().files
	if limit < 64 || limit > 67108864 || plainReplay(files).e != api.OK {
		return nil
	}
	read := [2]plainFile{plainRead(files[0]), plainRead(files[1])}
	for i, f := range read {
		if !f.live || read[1-i].live && read[1-i].gen > f.gen {
			continue
		}
		if len(files[i]) > f.good {
			v.cut(i, f.good)
		}
		if files[1-i] != "" {
			v.cut(1-i, 0)
		}
		return &plainJournal{v, limit, i, f.gen, f.first, f.base, f.batches}
	}
	for i := range files {
		if files[i] != "" {
			v.cut(i, 0)
		}
	}
	v.append(0, headOf(1, 1)+baseOf())
	v.sync(0)
	return &plainJournal{device: v, limit: limit, gen: 1, first: 1}
}

func tooMuch(bodies []string) bool {
	for _, b := range bodies {
		if len(b) > 2097152 {
			return true
		}
	}
	return len(bodies) > 8192
}

func (j *plainJournal) last() uint64 { return j.first + uint64(len(j.batches)) - 1 }

func (j *plainJournal) liveFile() string { return j.device.now().files[j.live] }

func (j *plainJournal) commit(batch []string) (int, api.Errno) {
	number := j.last() + 1
	if tooMuch(batch) {
		return 0, api.ErrLong
	}
	if number > 1<<62 {
		return 0, api.ErrEnd
	}
	text := batchOf(number, batch...)
	if len(j.liveFile())+len(text) > j.limit {
		return 0, api.ErrFull
	}
	j.device.append(j.live, text)
	j.device.sync(j.live)
	j.batches = append(j.batches, batch)
	return int(number), api.OK
}

func (j *plainJournal) compact(base []string) api.Errno {
	number := j.last() + 1
	if tooMuch(base) {
		return api.ErrLong
	}
	if j.gen == 1<<62 || number > 1<<62 {
		return api.ErrEnd
	}
	text := headOf(j.gen+1, number) + baseOf(base...)
	if len(text) > j.limit {
		return api.ErrFull
	}
	j.device.append(1-j.live, text)
	j.device.sync(1 - j.live)
	j.device.cut(j.live, 0)
	j.live, j.gen, j.first, j.base, j.batches = 1-j.live, j.gen+1, number, base, nil
	return api.OK
}

func (j *plainJournal) room() int {
	if n := len(j.liveFile()); n < j.limit {
		return j.limit - n
	}
	return 0
}

func (j *plainJournal) story() string {
	return telling(j.live, len(j.liveFile()), j.gen, j.first, j.base, j.batches)
}

func (j *plainJournal) kept() string { return keeping(j.base, j.batches) }

// holdJournal holds what a journal tells against a plain one.
func holdJournal(t *testing.T, what string, j *Journal, p *plainJournal) {
	t.Helper()
	if got := tell(j.Story()); got != p.story() {
		t.Fatalf("P11.9: %s: Story: %s, want %s", what, got, p.story())
	}
	if j.Last() != int(p.last()) || j.Room() != p.room() {
		t.Fatalf("P11.9: %s: Last %d, Room %d, want %d, %d", what, j.Last(), j.Room(), p.last(), p.room())
	}
	var each []string
	for n, batch := range j.Each() {
		each = append(each, fmt.Sprintf("%d %q", n, textsOf(batch)))
	}
	var want []string
	for i, batch := range p.batches {
		want = append(want, fmt.Sprintf("%d %q", p.first+uint64(i), batch))
	}
	if fmt.Sprint(each) != fmt.Sprint(want) {
		t.Fatalf("P11.9: %s: Each: %q, want %q", what, each, want)
	}
}

// both is a journal and a plain one, each on a device of its own with the same bytes.
type both struct {
	t *testing.T
	v *Device
	j *Journal
	p *plainJournal
}

// openBoth opens a disk that must be taken.
func openBoth(t *testing.T, files [2]string, limit int) *both {
	t.Helper()
	v, p := NewDevice(diskOf(files[:]...)), plainOpen(plainDeviceOf(files), limit)
	j, e, file, at := Open(v, limit)
	if p == nil || j == nil || e != api.OK || file != 0 || at != 0 {
		t.Fatalf("P11.6: Open(%.200q, %d) = %v, %d, %d, %d", files, limit, j != nil, e, file, at)
	}
	b := &both{t, v, j, p}
	b.hold("Open")
	return b
}

func (b *both) hold(what string) {
	b.t.Helper()
	holdDevice(b.t, what, b.v, b.p.device)
	holdJournal(b.t, what, b.j, b.p)
}

// commit holds an answer that must be as the chapter says.
func (b *both) commit(batch ...string) api.Errno {
	b.t.Helper()
	wantN, want := b.p.commit(batch)
	if n, e := b.j.Commit(bodiesOf(batch...)); n != wantN || e != want {
		b.t.Fatalf("P11.7: Commit(%.200q) = %d, %d, want %d, %d", batch, n, e, wantN, want)
	}
	return want
}

func (b *both) compact(base ...string) api.Errno {
	b.t.Helper()
	want := b.p.compact(base)
	if e := b.j.Compact(bodiesOf(base...)); e != want {
		b.t.Fatalf("P11.8: Compact(%.200q) = %d, want %d", base, e, want)
	}
	return want
}
