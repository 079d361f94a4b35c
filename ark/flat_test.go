package ark

import (
	"fmt"
	"math/rand"
	"slices"
	"strings"
	"testing"

	"graft/api"
)

// plainFlat is Flat by the words of P3.11.
func plainFlat(n api.Node) []api.File {
	var out []api.File
	for _, x := range plainNodes("", n) {
		out = append(out, api.File{Way: x.Name, Kind: x.Node.Kind, Exec: x.Node.Exec, Data: x.Node.Data, Link: x.Node.Link})
	}
	return out
}

func sameFile(a, b api.File) bool {
	return a.Way == b.Way && a.Kind == b.Kind && a.Exec == b.Exec && string(a.Data) == string(b.Data) && a.Link == b.Link
}

// P3.11, P3.12: there and back, in whatever order.
func TestFlatAndBack(t *testing.T) {
	x := rand.New(rand.NewSource(311))
	for i, n := range append(samples(), append(grown(300), wide(4095, link("x")), file(strings.Repeat("x", 1048464)))...) {
		files := Flat(n)
		if !slices.EqualFunc(files, plainFlat(n), sameFile) {
			t.Fatalf("tree %d: Flat = %v", i, files)
		}
		for range 4 {
			if m, e, at := Unflat(files); e != api.OK || at != 0 || !alike(m, n) {
				t.Fatalf("tree %d: Unflat = %v, %d, %d", i, m, e, at)
			}
			x.Shuffle(len(files), func(a, b int) { files[a], files[b] = files[b], files[a] })
		}
	}
}

// P3.11, P3.12, example 9.
func TestFlatExamples(t *testing.T) {
	n := dir(in("d", dir(in("f", file("hi")))))
	files := Flat(n)
	if len(files) != 3 || files[0].Way != "" || files[1].Way != "d" || files[2].Way != "d/f" {
		t.Fatalf("Flat = %v", files)
	}
	top, d, f := files[0], files[1], files[2]
	if m, e, at := Unflat([]api.File{f, top, d}); e != api.OK || at != 0 || !alike(m, n) {
		t.Errorf("Unflat = %v, %d, %d", m, e, at)
	}
	holdUnflat(t, "without d", []api.File{top, f}, api.ErrNone, 1)
	holdUnflat(t, "without d, the other way round", []api.File{f, top}, api.ErrNone, 0)
	holdUnflat(t, "of none", nil, api.ErrNone, 0)
	holdUnflat(t, "of an empty list", []api.File{}, api.ErrNone, 0)
}

// holdUnflat holds Unflat, and the plain words, against an error and a number.
func holdUnflat(t *testing.T, what string, files []api.File, e api.Errno, at int) {
	t.Helper()
	m, ge, gat := Unflat(files)
	if ge != e || gat != at || e != api.OK && !alike(m, api.Node{}) {
		t.Errorf("%s: Unflat = %d, %d, want %d, %d", what, ge, gat, e, at)
	}
	if we, wat := plainUnflat(files); we != e || wat != at {
		t.Errorf("%s: the plain one says %d, %d, want %d, %d", what, we, wat, e, at)
	}
}

// plainUnflat is Unflat's error by the words of P3.12.
func plainUnflat(files []api.File) (api.Errno, int) {
	if len(files) > 4096 {
		return api.ErrMany, 4096
	}
	for i, f := range files {
		names := strings.Split(f.Way, "/")
		if f.Way == "" {
			names = nil
		}
		for _, name := range names {
			if !plainName(name) {
				return api.ErrEntry, i
			}
		}
		if len(names) >= 32 {
			return api.ErrDeep, i
		}
		n := api.Node{Kind: f.Kind, Exec: f.Exec, Data: f.Data, Link: f.Link}
		count := 0
		if e, _ := plainCheckNode(n, nil, &count); e != api.OK {
			return e, i
		}
		for _, g := range files[:i] {
			if g.Way == f.Way {
				return api.ErrOrder, i
			}
		}
	}
	size, top := 24, false
	for i, f := range files {
		top = top || f.Way == ""
		slash := strings.LastIndex(f.Way, "/")
		found := f.Way == ""
		for _, g := range files {
			found = found || g.Kind == 3 && g.Way == f.Way[:max(slash, 0)]
		}
		if !found {
			return api.ErrNone, i
		}
		size += len(plainWords(plainPrint(api.Node{Kind: f.Kind, Exec: f.Exec, Data: f.Data, Link: f.Link})...))
		if f.Way != "" {
			size += len(plainWords("entry", "(", "name", f.Way[slash+1:], "node", ")"))
		}
	}
	if !top {
		return api.ErrNone, len(files)
	}
	if size > 1048576 {
		return api.ErrLarge, len(files)
	}
	return api.OK, 0
}

// P3.12: each error, and of two the first.
func TestUnflatErrors(t *testing.T) {
	top := api.File{Kind: 3}
	at := func(way string) api.File { return api.File{Way: way, Kind: 1} }
	depth := func(names int) string { return strings.Repeat("d/", names-1) + "d" }
	large := api.File{Way: "large", Kind: 1, Data: make([]byte, 1<<20)}
	for _, c := range []struct {
		what  string
		files []api.File
		e     api.Errno
		at    int
	}{
		{"one file", []api.File{{Kind: 1, Exec: true, Data: []byte("x")}}, api.OK, 0},
		{"one link", []api.File{{Kind: 2, Link: "x"}}, api.OK, 0},
		{"a directory", []api.File{top}, api.OK, 0},
		{"a slash at the end", []api.File{top, at("a/")}, api.ErrEntry, 1},
		{"a slash at the beginning", []api.File{top, at("/a")}, api.ErrEntry, 1},
		{"two slashes", []api.File{top, at("a//b")}, api.ErrEntry, 1},
		{"a slash alone", []api.File{at("/"), top}, api.ErrEntry, 0},
		{"dots", []api.File{top, at("a/..")}, api.ErrEntry, 1},
		{"one dot", []api.File{top, at(".")}, api.ErrEntry, 1},
		{"a zero", []api.File{top, at("a\x00")}, api.ErrEntry, 1},
		{"a name of 255", []api.File{top, at(strings.Repeat("n", 255))}, api.OK, 0},
		{"a name of 256", []api.File{top, at(strings.Repeat("n", 256))}, api.ErrEntry, 1},
		{"31 names", []api.File{top, at(depth(31))}, api.ErrNone, 1},
		{"32 names", []api.File{top, at(depth(32))}, api.ErrDeep, 1},
		{"33 names", []api.File{top, at(depth(33))}, api.ErrDeep, 1},
		{"32 names, one wrong at the end", []api.File{top, at(depth(31) + "/")}, api.ErrEntry, 1},
		{"deep and of no kind", []api.File{top, {Way: depth(32)}}, api.ErrDeep, 1},
		{"of no kind", []api.File{top, {Way: "a"}}, api.ErrNode, 1},
		{"of kind 4, with all fields", []api.File{{Kind: 4, Exec: true, Data: []byte("x"), Link: "\x00"}}, api.ErrNode, 0},
		{"of kind -1", []api.File{{Kind: -1}}, api.ErrNode, 0},
		{"a directory that may be run", []api.File{{Kind: 3, Exec: true}}, api.ErrUnused, 0},
		{"a directory's data", []api.File{{Kind: 3, Data: []byte("x")}}, api.ErrUnused, 0},
		{"a directory's link", []api.File{{Kind: 3, Link: "x"}}, api.ErrUnused, 0},
		{"a file's link", []api.File{{Kind: 1, Link: "x"}}, api.ErrUnused, 0},
		{"a link that may be run", []api.File{{Kind: 2, Link: "x", Exec: true}}, api.ErrUnused, 0},
		{"a link's data, and no text", []api.File{{Kind: 2, Data: []byte("x")}}, api.ErrUnused, 0},
		{"empty data", []api.File{{Kind: 3, Data: []byte{}}}, api.OK, 0},
		{"a link without text", []api.File{top, {Way: "a", Kind: 2}}, api.ErrLink, 1},
		{"a link of 1024", []api.File{{Kind: 2, Link: strings.Repeat("t", 1024)}}, api.OK, 0},
		{"a link of 1025", []api.File{{Kind: 2, Link: strings.Repeat("t", 1025)}}, api.ErrLink, 0},
		{"a link with a zero", []api.File{{Kind: 2, Link: "a\x00"}}, api.ErrLink, 0},
		{"twice, the second wrong", []api.File{top, at("a"), {Way: "a", Kind: 2}}, api.ErrLink, 2},
		{"twice", []api.File{top, at("a"), at("b"), at("a")}, api.ErrOrder, 3},
		{"the tree itself twice", []api.File{top, top}, api.ErrOrder, 1},
		{"the same way, unlike kinds", []api.File{top, at("a"), {Way: "a", Kind: 3}}, api.ErrOrder, 2},
		{"a wrong one behind two that are twice", []api.File{top, top, at("/")}, api.ErrOrder, 1},
		{"a wrong one ahead of two that are twice", []api.File{top, at("/"), top}, api.ErrEntry, 1},
		{"nowhere, ahead of a wrong one", []api.File{at("a/b"), top, at("/")}, api.ErrEntry, 2},
		{"nowhere", []api.File{top, at("a"), at("b/c"), at("d/e")}, api.ErrNone, 2},
		{"within a file", []api.File{top, at("a"), at("a/b")}, api.ErrNone, 2},
		{"within a link", []api.File{top, {Way: "a", Kind: 2, Link: "x"}, at("a/b")}, api.ErrNone, 2},
		{"within a file, which comes last", []api.File{top, at("a/b"), at("a")}, api.ErrNone, 1},
		{"within the tree, which is a file", []api.File{{Kind: 1}, at("a")}, api.ErrNone, 1},
		{"a directory's directory is missing", []api.File{top, at("a/b/c"), {Way: "a/b", Kind: 3}}, api.ErrNone, 2},
		{"no tree itself", []api.File{{Way: "d", Kind: 3}, at("d/e")}, api.ErrNone, 0},
		{"no tree itself, the other way round", []api.File{at("d/e"), {Way: "d", Kind: 3}}, api.ErrNone, 1},
		{"large", []api.File{top, large}, api.ErrLarge, 2},
		{"large, the tree itself", []api.File{{Kind: 1, Data: make([]byte, 1<<20)}}, api.ErrLarge, 1},
		{"large, and nowhere", []api.File{large}, api.ErrNone, 0},
		{"large, and twice", []api.File{top, large, large}, api.ErrOrder, 2},
		{"at the bound", []api.File{{Kind: 1, Data: make([]byte, 1048464)}}, api.OK, 0},
		{"above the bound", []api.File{{Kind: 1, Data: make([]byte, 1048465)}}, api.ErrLarge, 1},
	} {
		holdUnflat(t, c.what, c.files, c.e, c.at)
	}
}

// P3.12: 4096 and 4097 files, depth 32, and bytes far beyond the bound in shared memory.
func TestUnflatBounds(t *testing.T) {
	files := plainFlat(wide(4095, file("")))
	if m, e, at := Unflat(files); e != api.OK || at != 0 || len(m.List) != 4095 {
		t.Errorf("4096 files: %d, %d", e, at)
	}
	if m, e, at := Unflat(append(files, files[0])); e != api.ErrMany || at != 4096 || !alike(m, api.Node{}) {
		t.Errorf("4097 files: %d, %d", e, at)
	}
	if _, e, at := Unflat(make([]api.File, 5000)); e != api.ErrMany || at != 4096 {
		t.Errorf("5000 files: %d, %d", e, at)
	}
	if _, e, at := Unflat(make([]api.File, 4096)); e != api.ErrNode || at != 0 {
		t.Errorf("4096 files of no kind: %d, %d", e, at)
	}
	n := chain(32, file("x"))
	if m, e, at := Unflat(plainFlat(n)); e != api.OK || at != 0 || !alike(m, n) {
		t.Errorf("depth 32: %d, %d", e, at)
	}
	data := make([]byte, 1<<26)
	for i := range files[1:] {
		files[i+1].Data = data
	}
	if m, e, at := Unflat(files); e != api.ErrLarge || at != 4096 || !alike(m, api.Node{}) {
		t.Errorf("shared bytes: %d, %d", e, at)
	}
}

// P3.12: entries rise by their names, not by their ways.
func TestUnflatOrder(t *testing.T) {
	want := dir(in("a", dir(in("x", file("1")))), in("a!", file("2")), in("a-", dir(in("y", file("3")))), in("b", dir()))
	files := plainFlat(want)
	slices.SortFunc(files, func(a, b api.File) int { return strings.Compare(a.Way, b.Way) })
	for range 2 {
		if m, e, at := Unflat(files); e != api.OK || at != 0 || !alike(m, want) {
			t.Errorf("Unflat = %v, %d, %d", m, e, at)
		}
		slices.Reverse(files)
	}
}

// P3.12: files that chance lays, held against the plain words.
func TestUnflatByChance(t *testing.T) {
	x := rand.New(rand.NewSource(312))
	seen := map[api.Errno]int{}
	for range 10000 {
		left := 12
		files := plainFlat(grow(x, 5, &left))
		x.Shuffle(len(files), func(a, b int) { files[a], files[b] = files[b], files[a] })
		for range x.Intn(3) {
			i := x.Intn(len(files))
			switch x.Intn(6) {
			case 0:
				files[i].Way = files[x.Intn(len(files))].Way
			case 1:
				files[i].Way += []string{"/", "/a", ".", "\x00", "a"}[x.Intn(5)]
			case 2:
				files[i].Kind = x.Intn(5)
			case 3:
				files[i].Link = []string{"", "x", "\x00"}[x.Intn(3)]
			case 4:
				files[i].Exec = !files[i].Exec
			case 5:
				files = slices.Delete(files, i, i+1)
			}
			if len(files) == 0 {
				break
			}
		}
		e, at := plainUnflat(files)
		seen[e]++
		if m, ge, gat := Unflat(files); ge != e || gat != at || (e == api.OK) != isTree(m) {
			t.Fatalf("Unflat(%v) = %d, %d, want %d, %d", files, ge, gat, e, at)
		}
	}
	for _, e := range []api.Errno{api.OK, api.ErrEntry, api.ErrNode, api.ErrUnused, api.ErrLink, api.ErrOrder, api.ErrNone} {
		if seen[e] < 50 {
			t.Errorf("%d came %d times", e, seen[e])
		}
	}
}

// P3.13: Unflat leaves the files as they were, their spare room too.
func TestUnflatMemory(t *testing.T) {
	for _, n := range append(samples(), grown(100)...) {
		files := plainFlat(roomy(n))
		files = append(files, api.File{Way: "spare"})[:len(files)]
		slices.Reverse(files)
		was := fmt.Sprint(files[:len(files)+1])
		m, e, at := Unflat(files)
		if e != api.OK || !alike(m, n) {
			t.Fatalf("Unflat = %d, %d", e, at)
		}
		apart(t, "Unflat", spans(m), fileSpans(files))
		for _, f := range files {
			if string(f.Data[:cap(f.Data)][len(f.Data):]) != "spare room stays" {
				t.Fatalf("Unflat has written behind the data of %q", f.Way)
			}
		}
		if fmt.Sprint(files[:len(files)+1]) != was {
			t.Fatalf("Unflat has changed the files")
		}
		for i := range files {
			clear(files[i].Data)
		}
		if !alike(m, n) {
			t.Fatalf("the tree has changed with the files")
		}
	}
}
