package ark

import (
	"math/rand"
	"strings"
	"testing"

	"graft/api"
)

// holdCheck holds Check, and all that answers Check's error, against an error and a way.
func holdCheck(t *testing.T, what string, n api.Node, e api.Errno, way string) {
	t.Helper()
	if ge, gw := Check(n); ge != e || gw != way {
		t.Errorf("%s: Check = %d, %.60q, want %d, %.60q", what, ge, gw, e, way)
	}
	if e == api.OK {
		return
	}
	if size, ge := Size(n); size != 0 || ge != e {
		t.Errorf("%s: Size = %d, %d, want 0, %d", what, size, ge, e)
	}
	if data, ge := Print(n); len(data) != 0 || ge != e {
		t.Errorf("%s: Print = %d bytes, %d, want none, %d", what, len(data), ge, e)
	}
	if w, ge := NewWriter(n); w != nil || ge != e {
		t.Errorf("%s: NewWriter = %v, %d, want nil, %d", what, w, ge, e)
	}
	for _, way := range []string{"", "d", "//"} {
		if m, ge := Find(n, way); !alike(m, api.Node{}) || ge != e {
			t.Errorf("%s: Find(%q) = %d, want %d", what, way, ge, e)
		}
	}
	if Equal(n, n) || Equal(n, dir()) || Equal(dir(), n) {
		t.Errorf("%s: Equal tells of what is no tree", what)
	}
	if files := Flat(n); len(files) != 0 {
		t.Errorf("%s: Flat = %d files", what, len(files))
	}
	for way := range Each(n) {
		t.Errorf("%s: Each hands out %q", what, way)
	}
}

// P3.1, examples 6 and 7.
func TestCheckExamples(t *testing.T) {
	holdCheck(t, "twice", dir(in("a", dir()), in("a", dir())), api.ErrOrder, "")
	holdCheck(t, "falling", dir(in("b", dir()), in("a", dir())), api.ErrOrder, "")
	holdCheck(t, "dots", dir(in("..", dir())), api.ErrEntry, "")
	holdCheck(t, "slash", dir(in("x/y", dir())), api.ErrEntry, "")
	holdCheck(t, "a directory's link", api.Node{Kind: 3, Link: "x"}, api.ErrUnused, "")
	holdCheck(t, "no kind", dir(in("d", api.Node{Kind: 4})), api.ErrNode, "d")
	holdCheck(t, "zero", api.Node{}, api.ErrNode, "")
	for i, n := range append(samples(), grown(300)...) {
		if e, way := Check(n); e != api.OK || way != "" {
			t.Errorf("sample %d: Check = %d, %q", i, e, way)
		}
	}
}

// 3.1: which names there are, as entries, as ways and as archives have them.
func TestNames(t *testing.T) {
	names := []string{"", "a", ".", "..", "...", ".a", "..a", "a.", "/", "a/", "/a", "a/b", "\x00", "a\x00", "\x00a", "\x01", "\xff", "ä", " ", "\\"}
	for _, n := range []int{254, 255, 256, 257, 300, 1024, 1 << 16} {
		names = append(names, strings.Repeat("n", n), strings.Repeat("n", n-1)+"/", strings.Repeat("n", n-1)+"\x00", strings.Repeat(".", n))
	}
	for b := range 256 {
		names = append(names, string([]byte{byte(b)}), string([]byte{'a', byte(b), 'b'}))
	}
	for _, name := range names {
		e := api.ErrEntry
		if plainName(name) {
			e = api.OK
		}
		holdCheck(t, "an entry "+name, dir(in(name, dir())), e, "")
		way := ""
		if e != api.OK {
			way = "d/e"
		}
		holdCheck(t, "an inner entry "+name, dir(in("d", dir(in("e", dir(in(name, file("")))))), in("f", link(""))), first(e, api.ErrLink), firstWay(way, "f"))
	}
}

func first(a, b api.Errno) api.Errno {
	if a != api.OK {
		return a
	}
	return b
}

func firstWay(a, b string) string {
	if a != "" {
		return a
	}
	return b
}

// 3.1: which texts a link may have.
func TestTargets(t *testing.T) {
	texts := []string{"", "a", ".", "..", "/", "a//b", "\x00", "a\x00", "\x00a", "\xff"}
	for _, n := range []int{1, 1023, 1024, 1025, 1 << 16} {
		texts = append(texts, strings.Repeat("t", n), strings.Repeat("t", n-1)+"\x00", strings.Repeat("/", n))
	}
	for b := range 256 {
		texts = append(texts, string([]byte{byte(b)}))
	}
	for _, text := range texts {
		e, way := api.ErrLink, "l"
		if plainLink(text) {
			e, way = api.OK, ""
		}
		holdCheck(t, "a link to "+text, link(text), e, "")
		holdCheck(t, "an entry's link to "+text, dir(in("l", link(text))), e, way)
	}
}

// 3.1: a directory's names rise, byte by byte.
func TestOrderOfNames(t *testing.T) {
	rising := []string{"\x01", "!", "-", "...", "..a", ".a", "0", "A", "AA", "B", "a", "a\x01", "a!", "a0", "aa", "b", "\x7f", "\x80", "ä", "\xff", "\xff\xff"}
	for i, a := range rising {
		for j, b := range rising {
			e := api.OK
			if i >= j {
				e = api.ErrOrder
			}
			holdCheck(t, a+" ahead of "+b, dir(in(a, dir()), in(b, dir())), e, "")
		}
	}
	holdCheck(t, "not the last but one", dir(in("b", dir()), in("c", dir()), in("b", dir())), api.ErrOrder, "")
	holdCheck(t, "below the one ahead alone", dir(in("a", dir()), in("c", dir()), in("b", dir())), api.ErrOrder, "")
	holdCheck(t, "names of two directories", dir(in("b", dir(in("z", dir()))), in("c", dir(in("a", dir()))), in("d", dir())), api.OK, "")
}

// 3.1: a field that a kind does not use is false, empty or "".
func TestUnused(t *testing.T) {
	for kind := -1; kind <= 5; kind++ {
		for used := range 16 {
			n := api.Node{Kind: kind, Data: []byte{}, List: []api.Entry{}}
			n.Exec = used&1 != 0
			if used&2 != 0 {
				n.Data = []byte{0}
			}
			if used&4 != 0 {
				n.Link = "x"
			}
			if used&8 != 0 {
				n.List = []api.Entry{in("a", dir())}
			}
			e, _ := plainCheck(n)
			holdCheck(t, "fields", n, e, "")
			way := ""
			if e != api.OK {
				way = "a/b"
			}
			holdCheck(t, "an entry's fields", dir(in("a", dir(in("b", n)))), e, way)
		}
	}
}

// P3.1: of two faults the first is told.
func TestFirstFault(t *testing.T) {
	many := wide(4095, file(""))
	deep := strings.Repeat("d/", 31) + "d"
	last := many.List[4094].Name
	endIn := func(n api.Node) api.Node { // node 4096 is a directory, in which the next would stand
		m := wide(4095, file(""))
		m.List[4094].Node = n
		return m
	}
	for _, c := range []struct {
		what string
		n    api.Node
		e    api.Errno
		way  string
	}{
		{"4096 nodes", many, api.OK, ""},
		{"4097 nodes", wide(4096, file("")), api.ErrMany, wide(4096, file("")).List[4095].Name},
		{"one of many that has no kind", endIn(dir(in("a", api.Node{}))), api.ErrMany, last + "/a"},
		{"one of many under no name", endIn(dir(in("", api.Node{}))), api.ErrEntry, last},
		{"the last of as many as may be, of no kind", endIn(api.Node{}), api.ErrNode, last},
		{"depth 32", chain(32, file("")), api.OK, ""},
		{"depth 33", chain(33, file("")), api.ErrDeep, deep},
		{"too deep, of no kind", chain(33, api.Node{}), api.ErrDeep, deep},
		{"too deep, under no name", chain(32, dir(in("/", dir()))), api.ErrEntry, deep[:len(deep)-2]},
		{"too deep, out of order", chain(32, dir(in("b", dir()), in("a", dir()))), api.ErrDeep, deep[:len(deep)-1] + "b"},
		{"too deep and too many", dir(append(wide(4064, file("")).List, in("z", chain(32, dir())))...), api.ErrMany, "z/" + deep[:len(deep)-2]},
		{"of no kind, with all fields", api.Node{Kind: 7, Exec: true, Data: []byte("x"), Link: "\x00", List: many.List}, api.ErrNode, ""},
		{"a link that has data and no text", api.Node{Kind: 2, Data: []byte("x")}, api.ErrUnused, ""},
		{"a directory's link, and no name in it", api.Node{Kind: 3, Link: "x", List: []api.Entry{{}}}, api.ErrUnused, ""},
		{"no name, behind which no kind", dir(in("", api.Node{})), api.ErrEntry, ""},
		{"out of order, behind which no kind", dir(in("b", dir()), in("a", api.Node{})), api.ErrOrder, ""},
		{"a wrong name that is out of order", dir(in("b", dir()), in(".", dir())), api.ErrEntry, ""},
		{"no kind ahead of no name", dir(in("a", api.Node{}), in("", dir())), api.ErrNode, "a"},
		{"no kind ahead of no order", dir(in("b", dir(in("x", api.Node{}))), in("a", dir())), api.ErrNode, "b/x"},
		{"too large, with a fault at the end", dir(in("a", file(strings.Repeat("x", 1<<20))), in("b", api.Node{})), api.ErrNode, "b"},
		{"too large, with a wrong name at the end", dir(in("a", file(strings.Repeat("x", 1<<20))), in("", dir())), api.ErrEntry, ""},
		{"too large, below", dir(in("a", dir(in("b", file(strings.Repeat("x", 1<<20)))))), api.ErrLarge, ""},
	} {
		holdCheck(t, c.what, c.n, c.e, c.way)
		if e, way := plainCheck(c.n); e != c.e || way != c.way {
			t.Errorf("%s: the plain one says %d, %.60q", c.what, e, way)
		}
	}
}

// P3.1: the bound of the archive, and one more.
func TestLargest(t *testing.T) {
	for _, c := range []struct {
		n    api.Node
		size int
	}{
		{file(strings.Repeat("x", 1048464)), 1048576},
		{file(strings.Repeat("x", 1048457)), 1048576},
		{file(strings.Repeat("x", 1048456)), 1048568},
		{file(strings.Repeat("x", 1048465)), 0},
		{run(strings.Repeat("x", 1048432)), 1048576},
		{run(strings.Repeat("x", 1048433)), 0},
		{dir(in("a", file(strings.Repeat("x", 524288))), in("b", file(strings.Repeat("x", 523824)))), 1048576},
		{dir(in("a", file(strings.Repeat("x", 524288))), in("b", file(strings.Repeat("x", 523825)))), 0},
		{dir(in("a", file(strings.Repeat("x", 524288))), in("b", file(strings.Repeat("x", 524288)))), 0},
	} {
		if c.size == 0 {
			holdCheck(t, "one more", c.n, api.ErrLarge, "")
			continue
		}
		if len(plainArk(c.n)) != c.size {
			t.Errorf("%d bytes are meant to be %d", len(plainArk(c.n)), c.size)
		}
		holdCheck(t, "at the bound", c.n, api.OK, "")
		if size, e := Size(c.n); size != c.size || e != api.OK {
			t.Errorf("Size = %d, %d, want %d", size, e, c.size)
		}
	}
	// Far more than a number of 32 bits counts, in memory that is shared.
	data := make([]byte, 1<<26)
	holdCheck(t, "shared bytes", wide(4095, api.Node{Kind: 1, Data: data}), api.ErrLarge, "")
}

// P3.1: faults that chance lays, held against the plain words.
func TestCheckByChance(t *testing.T) {
	x := rand.New(rand.NewSource(31))
	seen := map[api.Errno]int{}
	for range 20000 {
		left := 30
		n := grow(x, 6, &left)
		for range x.Intn(4) {
			spoil(x, &n)
		}
		e, way := plainCheck(n)
		seen[e]++
		if ge, gw := Check(n); ge != e || gw != way {
			t.Fatalf("Check(%v) = %d, %q, want %d, %q", n, ge, gw, e, way)
		}
	}
	for _, e := range []api.Errno{api.OK, api.ErrNode, api.ErrUnused, api.ErrLink, api.ErrEntry, api.ErrOrder} {
		if seen[e] < 100 {
			t.Errorf("%d came %d times", e, seen[e])
		}
	}
}

// spoil turns something of a node, or of one below it.
func spoil(x *rand.Rand, n *api.Node) {
	for len(n.List) > 0 && x.Intn(4) > 0 {
		n = &n.List[x.Intn(len(n.List))].Node
	}
	switch k := x.Intn(7); {
	case k == 0:
		n.Kind = x.Intn(5)
	case k == 1:
		n.Exec = !n.Exec
	case k == 2:
		n.Data = []byte{0}
	case k == 3:
		n.Link += "\x00"
	case k == 4:
		n.Link = ""
	case len(n.List) == 0:
		n.List = append(n.List, in(".", dir()))
	case k == 5:
		n.List[x.Intn(len(n.List))].Name = []string{"", ".", "..", "a/b", "a\x00", strings.Repeat("n", 256)}[x.Intn(6)]
	default:
		i, j := x.Intn(len(n.List)), x.Intn(len(n.List))
		n.List[i].Name = n.List[j].Name
	}
}

// A tree may be a part of itself: each call ends all the same.
func TestPartOfItself(t *testing.T) {
	ring := make([]api.Entry, 1)
	ring[0] = in("d", api.Node{Kind: 3, List: ring})
	holdCheck(t, "a ring", api.Node{Kind: 3, List: ring}, api.ErrDeep, strings.Repeat("d/", 31)+"d")

	fan := make([]api.Entry, 40)
	for i := range fan {
		fan[i] = in(string([]byte{byte('A' + i)}), api.Node{Kind: 3, List: fan})
	}
	holdCheck(t, "a fan", api.Node{Kind: 3, List: fan}, api.ErrDeep, strings.Repeat("A/", 31)+"A")

	// Behind each directory's file stands the directory itself, but the file is wrong.
	bad := []api.Entry{in("a", file("")), in("b", api.Node{}), in("c", dir())}
	bad[2].Node.List = bad
	holdCheck(t, "a fault ahead", api.Node{Kind: 3, List: bad}, api.ErrNode, "b")

	// Two entries with one and the same list: 2^31 nodes, if they were counted.
	n := file("")
	for range 31 {
		n = dir(in("a", n), in("b", n))
	}
	e, way := Check(n)
	if e != api.ErrMany || len(way) != 61 {
		t.Errorf("a tree that shares all: %d, %q", e, way)
	}
}
