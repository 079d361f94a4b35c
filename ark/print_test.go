package ark

import (
	"bytes"
	"crypto/sha256"
	"encoding/hex"
	"math"
	"runtime"
	"strings"
	"testing"

	"graft/api"
)

// 3.2, P3.2, examples 1 and 2.
func TestPrintExamples(t *testing.T) {
	for _, c := range []struct {
		n     api.Node
		size  int
		words []string
	}{
		{file("hi"), 120, []string{"graft-ark-1", "(", "type", "regular", "contents", "hi", ")"}},
		{run("hi"), 152, []string{"graft-ark-1", "(", "type", "regular", "executable", "", "contents", "hi", ")"}},
		{link("F"), 120, []string{"graft-ark-1", "(", "type", "symlink", "target", "F", ")"}},
		{dir(), 96, []string{"graft-ark-1", "(", "type", "directory", ")"}},
		{dir(in("a", link("F"))), 288, []string{"graft-ark-1", "(", "type", "directory", "entry", "(", "name", "a", "node", "(", "type", "symlink", "target", "F", ")", ")", ")"}},
	} {
		data, e := Print(c.n)
		if e != api.OK || len(data) != c.size || !bytes.Equal(data, plainWords(c.words...)) {
			t.Errorf("Print(%v) = % x, %d", c.n, data, e)
		}
		if size, e := Size(c.n); size != c.size || e != api.OK {
			t.Errorf("Size(%v) = %d, %d", c.n, size, e)
		}
	}
	data, _ := Print(dir())
	if !bytes.Equal(data[:12], []byte{0x0b, 0, 0, 0, 0, 0, 0, 0, 0x67, 0x72, 0x61, 0x66}) {
		t.Errorf("the first twelve: % X", data[:12])
	}
}

// P3.2: archives as another program makes them.
func TestPrintKnown(t *testing.T) {
	bytesOf := func(n, step int) string {
		out := make([]byte, n)
		for i := range out {
			out[i] = byte(i * step)
		}
		return string(out)
	}
	for _, c := range []struct {
		n    api.Node
		size int
		sum  string
	}{
		{
			dir(
				in("bin", dir(in("hello", run("#!/bin/sh\necho hi\n")), in("hi", link("hello")))),
				in("etc", dir()),
				in("lib", dir(in("a", file(bytesOf(256, 1))), in("a.b", file("")), in("\xff", file("12345678")))),
			),
			1848, "f662318d38ae36fdd6967103dc6d2f248495e2efa9a249a68208a47cb329e2d8",
		},
		{file(bytesOf(1048464, 7)), 1048576, "278378cbc2e528d3cd0c8b35345ff6fff73cfdf2be1df2a33327f0c7b22c1156"},
	} {
		data, e := Print(c.n)
		sum := sha256.Sum256(data)
		if e != api.OK || len(data) != c.size || hex.EncodeToString(sum[:]) != c.sum {
			t.Errorf("%d bytes, %d, %x", len(data), e, sum)
		}
		if n, e, at := Parse(data); e != api.OK || at != 0 || !alike(n, c.n) {
			t.Errorf("Parse = %d, %d", e, at)
		}
	}
}

// P3.2, P3.7: there and back.
func TestThereAndBack(t *testing.T) {
	list := append(samples(), grown(1000)...)
	list = append(list, wide(4095, file("")), file(strings.Repeat("x", 1048464)), dir(in("a", wide(4094, link("a")))))
	for i, n := range list {
		data, e := Print(n)
		if e != api.OK || !bytes.Equal(data, plainArk(n)) {
			t.Fatalf("tree %d: Print = %d bytes, %d", i, len(data), e)
		}
		if size, e := Size(n); size != len(data) || e != api.OK {
			t.Fatalf("tree %d: Size = %d, %d, want %d", i, size, e, len(data))
		}
		m, e, at := Parse(data)
		if e != api.OK || at != 0 || !alike(m, n) {
			t.Fatalf("tree %d: Parse = %d, %d", i, e, at)
		}
		if again, e := Print(m); e != api.OK || !bytes.Equal(again, data) {
			t.Fatalf("tree %d: Print of what was read = %d", i, e)
		}
	}
}

// P3.7: no archive is the beginning of another, and unlike trees have unlike ones.
func TestArchivesApart(t *testing.T) {
	list := append(samples(), grown(200)...)
	arks := make([][]byte, len(list))
	for i, n := range list {
		arks[i], _ = Print(n)
	}
	for i, a := range list {
		for j, b := range list {
			if bytes.HasPrefix(arks[i], arks[j]) != alike(a, b) {
				t.Fatalf("trees %d and %d", i, j)
			}
		}
	}
}

// P3.2: nil lists and empty ones are the same.
func TestPrintEmptyLists(t *testing.T) {
	for kind := 1; kind <= 3; kind++ {
		text := ""
		if kind == 2 {
			text = "x"
		}
		a, ea := Print(api.Node{Kind: kind, Link: text})
		b, eb := Print(api.Node{Kind: kind, Link: text, Data: []byte{}, List: []api.Entry{}})
		if ea != api.OK || eb != api.OK || !bytes.Equal(a, b) {
			t.Errorf("kind %d: % x, %d and % x, %d", kind, a, ea, b, eb)
		}
	}
}

// P3.2: Size makes no archive.
func TestSizeMakesNone(t *testing.T) {
	for _, n := range []api.Node{file(strings.Repeat("x", 1048464)), wide(4095, run(""))} {
		var ahead, behind runtime.MemStats
		runtime.ReadMemStats(&ahead)
		size, e := Size(n)
		runtime.ReadMemStats(&behind)
		if size != len(plainArk(n)) || e != api.OK {
			t.Errorf("Size = %d, %d", size, e)
		}
		if taken := behind.TotalAlloc - ahead.TotalAlloc; taken > uint64(size)/2 {
			t.Errorf("Size took %d bytes for an archive of %d", taken, size)
		}
	}
}

// P3.6: in pieces of each length.
func TestWriter(t *testing.T) {
	for _, n := range samples() {
		want := plainArk(n)
		for most := 1; most <= len(want)+1; most += 1 + len(want)/200 {
			w, e := NewWriter(n)
			if w == nil || e != api.OK {
				t.Fatalf("NewWriter = %v, %d", w, e)
			}
			var all []byte
			for len(all) < len(want) {
				piece := w.Next(most)
				if len(piece) != min(most, len(want)-len(all)) {
					t.Fatalf("Next(%d) = %d bytes behind %d of %d", most, len(piece), len(all), len(want))
				}
				all = append(all, piece...)
			}
			if !bytes.Equal(all, want) {
				t.Fatalf("in pieces of %d: % x", most, all)
			}
			if piece := w.Next(most); len(piece) != 0 {
				t.Fatalf("behind the end: % x", piece)
			}
		}
	}
}

// P3.6: numbers below 1, 1, and more than are left.
func TestWriterEdges(t *testing.T) {
	want := plainArk(file("hi"))
	w, _ := NewWriter(file("hi"))
	var all []byte
	for _, c := range []struct{ most, n int }{
		{-1, 0}, {0, 0}, {math.MinInt, 0}, {1, 1}, {0, 0}, {1, 1}, {7, 7}, {-5, 0}, {110, 110}, {2, 1}, {1, 0}, {0, 0}, {-1, 0}, {math.MaxInt, 0},
	} {
		piece := w.Next(c.most)
		if len(piece) != c.n {
			t.Errorf("Next(%d) = %d bytes, want %d", c.most, len(piece), c.n)
		}
		all = append(all, piece...)
	}
	if !bytes.Equal(all, want) {
		t.Errorf("in all % x", all)
	}
	w, _ = NewWriter(file("hi"))
	if piece := w.Next(math.MaxInt); !bytes.Equal(piece, want) {
		t.Errorf("all at once: % x", piece)
	}
}

// P3.6: what the writer was made of may change then, and what it hands out too.
func TestWriterMemory(t *testing.T) {
	n := dir(in("a", file("some bytes")), in("b", link("a")))
	want := plainArk(n)
	w, _ := NewWriter(n)
	var pieces [][]byte
	var all []byte
	n.List[0].Node.Data[0] = 'X'
	n.List[1] = in("z", dir())
	for piece := w.Next(50); len(piece) > 0; piece = w.Next(50) {
		all = append(all, piece...)
		pieces = append(pieces, piece)
		clear(piece[:cap(piece)])
	}
	if !bytes.Equal(all, want) {
		t.Errorf("in all % x", all)
	}
	var answers []span
	for _, p := range pieces {
		answers = append(answers, spanOf(p))
	}
	apart(t, "Next", answers, spans(n))
}

// P3.13.
func TestNilWriter(t *testing.T) {
	var none *Writer
	for _, most := range []int{-1, 0, 1, 100} {
		if piece := none.Next(most); len(piece) != 0 {
			t.Errorf("a nil writer: % x", piece)
		}
		if piece := new(Writer).Next(most); len(piece) != 0 {
			t.Errorf("a writer of nothing: % x", piece)
		}
	}
}

// Several writers have nothing in common.
func TestWritersApart(t *testing.T) {
	list := samples()
	writers := make([]*Writer, len(list))
	all := make([][]byte, len(list))
	for i, n := range list {
		writers[i], _ = NewWriter(n)
	}
	for range 1000 {
		for i, w := range writers {
			all[i] = append(all[i], w.Next(13)...)
		}
	}
	for i, n := range list {
		if !bytes.Equal(all[i], plainArk(n)) {
			t.Errorf("writer %d: % x", i, all[i])
		}
	}
}
