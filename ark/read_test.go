package ark

import (
	"bytes"
	"encoding/binary"
	"math/rand"
	"strings"
	"testing"

	"graft/api"
)

// holdParse holds Parse against the plain words, and answers what it told.
func holdParse(t *testing.T, data []byte) (api.Errno, int) {
	t.Helper()
	wn, we, wat := plainParse(data)
	n, e, at := Parse(data)
	if e != we || at != wat || !alike(n, wn) {
		t.Fatalf("Parse(%.300q) = %v, %d, %d, want %v, %d, %d", data, n, e, at, wn, we, wat)
	}
	if e == api.OK {
		if again, pe := Print(n); pe != api.OK || !bytes.Equal(again, data) {
			t.Fatalf("Print of what was read of %.300q = %d", data, pe)
		}
	}
	return e, at
}

// turned is data with the byte at a place another one.
func turned(data []byte, at int, b byte) []byte {
	out := bytes.Clone(data)
	out[at] = b
	return out
}

// P3.3, P3.4, examples 3 to 6.
func TestParseExamples(t *testing.T) {
	f := plainArk(file("hi"))
	empty := 24 + 16 + 16 + 24 // where the first word in a directory begins
	for _, c := range []struct {
		what string
		data []byte
		e    api.Errno
		at   int
	}{
		{"no bytes", nil, api.ErrShort, 0},
		{"no bytes, but a list", []byte{}, api.ErrShort, 0},
		{"cut", f[:119], api.ErrShort, 119},
		{"whole", f, api.OK, 0},
		{"a byte behind", append(bytes.Clone(f), 0), api.ErrTail, 120},
		{"bytes behind", append(bytes.Clone(f), f...), api.ErrTail, 120},
		{"12", []byte{12, 0, 0, 0, 0, 0, 0, 0}, api.ErrToken, 0},
		{"all ones", bytes.Repeat([]byte{255}, 8), api.ErrLarge, 0},
		{"seven ones", bytes.Repeat([]byte{255}, 7), api.ErrShort, 7},
		{"padding", turned(f, 19, 1), api.ErrPadding, 19},
		{"the last padding", turned(f, 119, 1), api.ErrPadding, 119},
		{"another head", turned(f, 8, 'G'), api.ErrToken, 0},
		{"falling", plainArk(dir(in("b", dir()), in("a", dir()))), api.ErrOrder, empty + (16*5 + 72 + 16) + 48},
		{"twice", plainArk(dir(in("a", dir()), in("a", dir()))), api.ErrOrder, empty + (16*5 + 72 + 16) + 48},
		{"dots", plainArk(dir(in("..", dir()))), api.ErrEntry, empty + 48},
		{"slash", plainArk(dir(in("x/y", dir()))), api.ErrEntry, empty + 48 + 8 + 1},
	} {
		if e, at := holdParse(t, c.data); e != c.e || at != c.at {
			t.Errorf("%s: %d, %d, want %d, %d", c.what, e, at, c.e, c.at)
		}
	}
}

// P3.3, P3.4: an archive cut at each of its places, with bytes behind it, with each of its bytes turned, left out and doubled.
func TestParseEachPlace(t *testing.T) {
	for _, n := range samples() {
		data := plainArk(n)
		if len(data) > 1200 {
			continue
		}
		for i := range data {
			if e, at := holdParse(t, data[:i]); e != api.ErrShort || at != i {
				t.Fatalf("cut at %d: %d, %d", i, e, at)
			}
			for _, b := range []byte{0, 1, 2, 7, 8, '(', ')', '.', '/', 'a', 'z', 127, 128, 254, 255, data[i] ^ 1, data[i] ^ 128, data[i] + 1, data[i] - 1} {
				holdParse(t, turned(data, i, b))
			}
			holdParse(t, append(bytes.Clone(data[:i]), data[i+1:]...))
			holdParse(t, append(bytes.Clone(data[:i+1]), data[i:]...))
		}
		for b := range 256 {
			if e, at := holdParse(t, append(bytes.Clone(data), byte(b))); e != api.ErrTail || at != len(data) {
				t.Fatalf("a byte behind: %d, %d", e, at)
			}
		}
	}
}

// P3.3: each byte of small archives turned to each other one.
func TestParseEachByte(t *testing.T) {
	for _, n := range []api.Node{run("hi"), link("F"), dir(in("a", dir()), in("b", file("9 bytes..")))} {
		data := plainArk(n)
		for i := range data {
			for b := range 256 {
				holdParse(t, turned(data, i, byte(b)))
			}
		}
	}
}

// P3.3, 1: lengths up to those that only eight bytes can say, at each word.
func TestParseLengths(t *testing.T) {
	data := plainArk(dir(in("a", run("hi")), in("b", link("F"))))
	for at := 0; at < len(data); {
		n := int(data[at])
		for _, length := range []uint64{0, 1, 2, 3, 4, 5, 6, 7, 8, 9, 10, 11, 12, 255, 256, 257, 1023, 1024, 1025, 1 << 16, 1<<20 - uint64(at) - 16, 1<<20 - uint64(at) - 15, 1<<20 - uint64(at) - 9, 1<<20 - uint64(at) - 8, 1<<20 - uint64(at) - 7, 1<<20 - uint64(at), 1<<20 - 1, 1 << 20, 1<<20 + 1, 1 << 31, 1<<32 - 1, 1 << 32, 1<<32 + uint64(n), 1<<63 - 16, 1<<63 - 8, 1<<63 - 1, 1 << 63, 1<<63 + uint64(n), 1<<64 - 1<<20, 1<<64 - 16, 1<<64 - 15, 1<<64 - 9, 1<<64 - 8, 1<<64 - 7, 1<<64 - 1} {
			turned := bytes.Clone(data)
			binary.LittleEndian.PutUint64(turned[at:], length)
			holdParse(t, turned)
			e, place := holdParse(t, turned[:at+8])
			if e == api.OK || e != api.ErrShort && place != at {
				t.Fatalf("the length %d at %d: %d, %d", length, at, e, place)
			}
			if fits := length <= 1<<20-uint64(at)-8; fits == (e == api.ErrLarge) {
				t.Fatalf("the length %d at %d: %d, %d", length, at, e, place)
			}
			if e, place := holdParse(t, turned[:at+7]); e != api.ErrShort || place != at+7 {
				t.Fatalf("seven bytes of the length %d at %d: %d, %d", length, at, e, place)
			}
		}
		at += len(plainWords(strings.Repeat("x", n)))
	}
}

// P3.3, 1 and 2: names and links' texts as archives have them.
func TestParseNamesAndLinks(t *testing.T) {
	texts := []string{"", "a", "b", "c", ".", "..", "...", ".a", "/", "a/", "//", "\x00", "a\x00", "a\x00/", "a/\x00", ".\x00", "../", "\x00\x00", "\xff", "bb", "b\x01"}
	for _, n := range []int{7, 8, 9, 254, 255, 256, 1023, 1024, 1025, 4096} {
		texts = append(texts, strings.Repeat("n", n), strings.Repeat("n", n-1)+"/", strings.Repeat("n", n-1)+"\x00", strings.Repeat(".", n), "\x00"+strings.Repeat("/", n-1))
	}
	seen := map[api.Errno]int{}
	for _, text := range texts {
		for _, data := range [][]byte{
			plainArk(link(text)),
			plainArk(dir(in(text, file("hi")))),
			plainArk(dir(in("b", dir(in(text, link(text)))), in(text, file("hi")))),
			plainArk(dir(in(text, link(text)), in("b", dir()))),
		} {
			e, _ := holdParse(t, data)
			seen[e]++
			for cut := 1; cut < len(data); cut += 1 + len(data)/100 {
				holdParse(t, data[:cut])
			}
		}
	}
	for _, e := range []api.Errno{api.OK, api.ErrEntry, api.ErrLink, api.ErrOrder} {
		if seen[e] == 0 {
			t.Errorf("%d never came", e)
		}
	}
}

// P3.3: which words may come: each word of the grammar in place of each, left out, doubled and put in.
func TestParseWords(t *testing.T) {
	vocabulary := []string{"graft-ark-1", "(", ")", "type", "regular", "executable", "", "contents", "symlink", "target", "directory", "entry", "name", "node", "x", "X", "Type", "contentS", "graft-ark-2"}
	for _, n := range []api.Node{run("hi"), file("hi"), link("F"), dir(in("a", dir()), in("b", file("x")), in("c", run("")), in("d", link("a")))} {
		words := append([]string{"graft-ark-1"}, plainPrint(n)...)
		for i := range words {
			for _, w := range vocabulary {
				replaced := append([]string{}, words...)
				replaced[i] = w
				holdParse(t, plainWords(replaced...))
				put := append(append(append([]string{}, words[:i]...), w), words[i:]...)
				holdParse(t, plainWords(put...))
				holdParse(t, plainWords(put[:i+1]...))
			}
			holdParse(t, plainWords(append(append([]string{}, words[:i]...), words[i+1:]...)...))
		}
	}
}

// P3.3, 4: 4096 and 4097 nodes, depths of 32 and 33.
func TestParseBounds(t *testing.T) {
	deep := func(depth int) int { return 24 + (depth-1)*(16+16+24+16*5) }
	for _, c := range []struct {
		what string
		n    api.Node
		e    api.Errno
		at   int
	}{
		{"4096 nodes", wide(4095, file("")), api.OK, 0},
		{"4097 nodes", wide(4096, file("")), api.ErrMany, 24 + 56 + 4095*(16*5+16*5+8+16) + 16*5},
		{"4097 nodes, the last of no kind", dir(append(wide(4095, file("")).List, in("z", api.Node{}))...), api.ErrMany, 24 + 56 + 4095*(16*5+16*5+8+16) + 16*5},
		{"depth 32", chain(32, file("")), api.OK, 0},
		{"depth 33", chain(33, file("")), api.ErrDeep, deep(33)},
		{"depth 40", chain(40, file("")), api.ErrDeep, deep(33)},
		{"depth 32 twice", dir(in("a", chain(31, dir())), in("b", chain(31, dir()))), api.OK, 0},
		{"too many and too deep", dir(append(wide(4064, file("")).List, in("z", chain(32, dir())))...), api.ErrMany, 24 + 56 + 4064*(16*5+16*5+8+16) + 31*136 + 16*5},
	} {
		data := plainArk(c.n)
		if e, at := holdParse(t, data); e != c.e || at != c.at {
			t.Errorf("%s: %d, %d, want %d, %d", c.what, e, at, c.e, c.at)
		}
		if c.e == api.OK {
			continue
		}
		// It is told when the word is there, its padding too, and not ahead of it.
		for _, cut := range []int{c.at, c.at + 8, c.at + 9, c.at + 15, c.at + 16} {
			e, at := holdParse(t, data[:cut])
			if want := cut == c.at+16; (e == c.e) != want || !want && at != cut {
				t.Errorf("%s, cut at %d: %d, %d", c.what, cut, e, at)
			}
		}
		if e, at := holdParse(t, turned(data, c.at+15, 1)); e != api.ErrPadding || at != c.at+15 {
			t.Errorf("%s, with padding: %d, %d", c.what, e, at)
		}
	}
}

// P3.3, 1: archives of 1048576 bytes and of one word more.
func TestParseLargest(t *testing.T) {
	for _, c := range []struct {
		what string
		n    api.Node
		e    api.Errno
		at   int
	}{
		{"at the bound", file(strings.Repeat("x", 1048464)), api.OK, 0},
		{"the end beyond it", file(strings.Repeat("x", 1048465)), api.ErrLarge, 1048568},
		{"the end wholly beyond it", file(strings.Repeat("x", 1048480)), api.ErrLarge, 1048576},
		{"the data beyond it", file(strings.Repeat("x", 1048481)), api.ErrLarge, 88},
		{"a directory at the bound", dir(in("a", file(strings.Repeat("x", 1048296)))), api.OK, 0},
		{"one word more", dir(in("a", file(strings.Repeat("x", 1048297)))), api.ErrLarge, 1048568},
		{"one entry more", dir(in("a", file(strings.Repeat("x", 1048296))), in("b", dir())), api.ErrLarge, 1048576},
	} {
		data := plainArk(c.n)
		e, at := holdParse(t, data)
		if e != c.e || at != c.at {
			t.Errorf("%s: %d, %d, want %d, %d", c.what, e, at, c.e, c.at)
		}
		if e == api.OK && len(data) != 1048576 {
			t.Errorf("%s: %d bytes", c.what, len(data))
		}
	}
}

// P3.3: words that chance strings together, along the grammar as far as it goes.
func TestParseByChance(t *testing.T) {
	x := rand.New(rand.NewSource(33))
	for range 3000 {
		left := 12
		n := grow(x, 5, &left)
		for range x.Intn(3) {
			spoil(x, &n)
		}
		data := plainArk(n)
		for range x.Intn(3) {
			data[x.Intn(len(data))] ^= byte(1 << x.Intn(8))
		}
		holdParse(t, data)
	}
}

// P3.5: the answers hang on the bytes alone: byte by byte a Feed tells just what Parse of all that was fed tells.
func TestReaderByteByByte(t *testing.T) {
	for _, data := range readerInputs() {
		r := NewReader()
		broken := false
		for i := range data {
			e, at := r.Feed(data[i : i+1])
			we, wat := api.ErrDone, 0
			if !broken {
				_, we, wat = Parse(data[:i+1])
				if we == api.ErrShort {
					we, wat = api.OK, 0
				}
			}
			if e != we || at != wat {
				t.Fatalf("%.200q, byte %d: %d, %d, want %d, %d", data, i, e, at, we, wat)
			}
			broken = broken || e != api.OK
		}
		holdClose(t, r, data, broken)
	}
}

// readerInputs are archives, and what is nearly one.
func readerInputs() [][]byte {
	var out [][]byte
	x := rand.New(rand.NewSource(35))
	for _, n := range samples() {
		data := plainArk(n)
		if len(data) > 2000 {
			continue
		}
		out = append(out, data, append(bytes.Clone(data), 0), data[:len(data)-1])
		for range 6 {
			out = append(out, turned(data, x.Intn(len(data)), byte(x.Intn(256))), data[:x.Intn(len(data))])
		}
	}
	return append(out, nil, plainArk(chain(33, dir())), plainArk(dir(in("a/b\x00", dir()))), plainArk(link("a\x00\x00")), plainArk(dir(in("b", dir()), in("a", dir()))))
}

// holdClose holds Close against Parse of all that was fed, and what is asked behind it.
func holdClose(t *testing.T, r *Reader, data []byte, broken bool) {
	t.Helper()
	wn, we, wat := Parse(data)
	if broken {
		wn, we, wat = api.Node{}, api.ErrDone, 0
	}
	n, e, at := r.Close()
	if e != we || at != wat || !alike(n, wn) {
		t.Fatalf("Close behind %.200q = %d, %d, want %d, %d", data, e, at, we, wat)
	}
	for range 2 {
		if e, at := r.Feed(nil); e != api.ErrDone || at != 0 {
			t.Fatalf("Feed behind Close: %d, %d", e, at)
		}
		if e, at := r.Feed(data); e != api.ErrDone || at != 0 {
			t.Fatalf("Feed behind Close: %d, %d", e, at)
		}
		if n, e, at := r.Close(); e != api.ErrDone || at != 0 || !alike(n, api.Node{}) {
			t.Fatalf("Close behind Close: %d, %d", e, at)
		}
	}
}

// feed feeds pieces up to the first error.
func feed(r *Reader, data []byte, size func() int) (api.Errno, int, bool) {
	for len(data) > 0 {
		n := min(size(), len(data))
		if e, at := r.Feed(data[:n]); e != api.OK || at != 0 {
			return e, at, true
		}
		data = data[n:]
	}
	return api.OK, 0, false
}

// P3.5: in pieces of each length, with empty ones, and as chance cuts them.
func TestReaderPieces(t *testing.T) {
	x := rand.New(rand.NewSource(36))
	for _, data := range readerInputs() {
		wn, we, wat := Parse(data)
		ways := []func() int{func() int { return x.Intn(4) }, func() int { return x.Intn(40) }, func() int { return 1 << 30 }}
		for n := 1; n <= len(data) && n < 200; n++ {
			ways = append(ways, func() int { return n })
		}
		for _, size := range ways {
			r := NewReader()
			e, at, broken := feed(r, data, size)
			if broken != (we != api.OK && we != api.ErrShort) || broken && (e != we || at != wat) {
				t.Fatalf("%.200q: %d, %d, want %d, %d", data, e, at, we, wat)
			}
			if !broken {
				n, e, at := r.Close()
				if e != we || at != wat || !alike(n, wn) {
					t.Fatalf("Close behind %.200q = %d, %d, want %d, %d", data, e, at, we, wat)
				}
			}
			holdClose(t, r, data, true)
		}
	}
}

// P3.5, example 10.
func TestReaderExample(t *testing.T) {
	data := plainArk(file("hi"))
	r := NewReader()
	for i := range data {
		if e, at := r.Feed(data[i : i+1]); e != api.OK || at != 0 {
			t.Fatalf("byte %d: %d, %d", i, e, at)
		}
	}
	if n, e, at := r.Close(); e != api.OK || at != 0 || !alike(n, file("hi")) {
		t.Errorf("Close = %v, %d, %d", n, e, at)
	}
	r = NewReader()
	data[0]++
	for i := range 10 {
		e, at := r.Feed(data[i : i+1])
		want := []api.Errno{7: api.ErrToken, 8: api.ErrDone, 9: api.ErrDone}[i]
		if e != want || at != 0 {
			t.Errorf("byte %d: %d, %d", i, e, at)
		}
	}
}

// P3.5: a piece may have far more than an archive.
func TestReaderHugePiece(t *testing.T) {
	data := append(plainArk(dir()), make([]byte, 1<<24)...)
	if e, at := NewReader().Feed(data); e != api.ErrTail || at != 96 {
		t.Errorf("%d, %d", e, at)
	}
	data = plainArk(file(strings.Repeat("x", 1<<24)))
	if e, at := NewReader().Feed(data); e != api.ErrLarge || at != 88 {
		t.Errorf("%d, %d", e, at)
	}
}

// P3.5: the largest archive, fed in small pieces.
func TestReaderLargest(t *testing.T) {
	n := dir(in("a", file(strings.Repeat("xyz", 100000))), in("b", wide(3000, file("some bytes"))))
	data := plainArk(n)
	r := NewReader()
	if e, at, _ := feed(r, data, func() int { return 3 }); e != api.OK {
		t.Fatalf("%d, %d", e, at)
	}
	if m, e, at := r.Close(); e != api.OK || at != 0 || !alike(m, n) {
		t.Errorf("Close = %d, %d", e, at)
	}
}

// P3.13.
func TestNilReader(t *testing.T) {
	var none *Reader
	for _, p := range [][]byte{nil, plainArk(dir()), bytes.Repeat([]byte{255}, 8)} {
		if e, at := none.Feed(p); e != api.OK || at != 0 {
			t.Errorf("Feed = %d, %d", e, at)
		}
	}
	for range 2 {
		if n, e, at := none.Close(); e != api.OK || at != 0 || !alike(n, api.Node{}) {
			t.Errorf("Close = %v, %d, %d", n, e, at)
		}
	}
	r := new(Reader)
	if e, at := r.Feed(plainArk(dir())); e != api.OK || at != 0 {
		t.Errorf("Feed of a reader that no call has made = %d, %d", e, at)
	}
	if n, e, at := r.Close(); e != api.OK || at != 0 || !alike(n, dir()) {
		t.Errorf("Close of a reader that no call has made = %v, %d, %d", n, e, at)
	}
	if n, e, at := NewReader().Close(); e != api.ErrShort || at != 0 || !alike(n, api.Node{}) {
		t.Errorf("Close at once = %v, %d, %d", n, e, at)
	}
}

// Several readers have nothing in common.
func TestReadersApart(t *testing.T) {
	inputs := readerInputs()
	readers := make([]*Reader, len(inputs))
	told := make([]api.Errno, len(inputs))
	places := make([]int, len(inputs))
	for i := range readers {
		readers[i] = NewReader()
	}
	for from := 0; from < 6000; from += 11 {
		for i, data := range inputs {
			if told[i] != api.OK || from >= len(data) {
				continue
			}
			told[i], places[i] = readers[i].Feed(data[from:min(from+11, len(data))])
		}
	}
	for i, data := range inputs {
		if len(data) > 6000 {
			continue
		}
		wn, we, wat := Parse(data)
		n, e, at := api.Node{}, told[i], places[i]
		if e == api.OK {
			n, e, at = readers[i].Close()
		}
		if e != we || at != wat || !alike(n, wn) {
			t.Errorf("reader %d: %d, %d, want %d, %d", i, e, at, we, wat)
		}
	}
}

// P3.13: what is fed is neither kept nor changed, and what is answered is new memory.
func TestReaderMemory(t *testing.T) {
	n := dir(in("a", file("some bytes")), in("b", run("")), in("c", dir(in("a", file("some bytes")), in("b", link("x")))), in("d", file("12345678")))
	data := plainArk(n)
	for size := 1; size <= len(data); size += 7 {
		r := NewReader()
		var given []span
		for from := 0; from < len(data); from += size {
			piece := make([]byte, 0, size+8)
			piece = append(piece, data[from:min(from+size, len(data))]...)
			copy(piece[len(piece):cap(piece)], "untouchd")
			was := bytes.Clone(piece[:cap(piece)])
			if e, at := r.Feed(piece); e != api.OK {
				t.Fatalf("%d, %d", e, at)
			}
			if !bytes.Equal(piece[:cap(piece)], was) {
				t.Fatalf("Feed changed the piece from %d on", from)
			}
			clear(piece[:cap(piece)])
			given = append(given, spanOf(piece))
		}
		m, e, at := r.Close()
		if e != api.OK || !alike(m, n) {
			t.Fatalf("in pieces of %d: %d, %d", size, e, at)
		}
		apart(t, "Close", spans(m), given)
	}
	was := bytes.Clone(data)
	m, _, _ := Parse(data)
	apart(t, "Parse", spans(m), []span{spanOf(data)})
	clear(data)
	if !alike(m, n) {
		t.Errorf("what Parse answered has changed with what was handed in")
	}
	if k, _, _ := Parse(was); !bytes.Equal(was, plainArk(n)) || !alike(k, n) {
		t.Errorf("Parse has changed what was handed in")
	}
}
