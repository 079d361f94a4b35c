package ark

import (
	"math/rand"
	"strings"
	"testing"

	"graft/api"
)

// P3.8: of all pairs.
func TestEqual(t *testing.T) {
	list := append(samples(), grown(150)...)
	for i, a := range list {
		for j, b := range list {
			if Equal(a, b) != alike(a, b) {
				t.Fatalf("Equal of trees %d and %d = %v", i, j, !alike(a, b))
			}
		}
	}
}

// P3.8: trees that differ in one thing alone.
func TestEqualButForOne(t *testing.T) {
	make := func() api.Node {
		return dir(in("a", file("hi")), in("d", dir(in("e", dir(in("f", run("x")), in("l", link("f")))))), in("z", dir()))
	}
	same := make()
	if !Equal(make(), same) || !Equal(same, make()) || !Equal(same, same) {
		t.Errorf("a tree is not equal to itself")
	}
	same.List[0].Node.List = []api.Entry{}
	same.List[2].Node.List = []api.Entry{}
	same.List[2].Node.Data = []byte{}
	if !Equal(make(), same) || !Equal(same, make()) {
		t.Errorf("empty lists and nil ones are not the same")
	}
	inner := func(n api.Node) []api.Entry { return n.List[1].Node.List[0].Node.List }
	for i, change := range []func(n api.Node){
		func(n api.Node) { n.List[0].Name = "b" },
		func(n api.Node) { n.List[0].Node.Data[1] = 'o' },
		func(n api.Node) { n.List[0].Node.Data = []byte("hi ") },
		func(n api.Node) { n.List[0].Node.Data = []byte("h") },
		func(n api.Node) { n.List[0].Node.Data = nil },
		func(n api.Node) { n.List[0].Node.Exec = true },
		func(n api.Node) { n.List[2].Node = file("") },
		func(n api.Node) { n.List[2].Node.List = []api.Entry{in("a", dir())} },
		func(n api.Node) { inner(n)[0].Node.Exec = false },
		func(n api.Node) { inner(n)[0].Node.Data = []byte("y") },
		func(n api.Node) { inner(n)[0].Name = "g" },
		func(n api.Node) { inner(n)[1].Node.Link = "F" },
		func(n api.Node) { inner(n)[1].Node.Link = "ff" },
		func(n api.Node) { inner(n)[1].Node = file("f") },
		func(n api.Node) { n.List[1].Node.List[0].Node.List = inner(n)[:1] },
		func(n api.Node) { n.List[1].Node.List[0].Node.List = inner(n)[1:] },
	} {
		other := make()
		change(other)
		if !isTree(other) {
			t.Errorf("change %d makes no tree", i)
		}
		if Equal(make(), other) || Equal(other, make()) {
			t.Errorf("change %d is not seen", i)
		}
	}
}

// P3.9, example 8.
func TestFindExamples(t *testing.T) {
	n := dir(in("d", dir(in("f", file("hi")))), in("l", link("d")), in("x", run("x")))
	for _, c := range []struct {
		way  string
		want api.Node
		e    api.Errno
	}{
		{"", n, api.OK},
		{"d", n.List[0].Node, api.OK},
		{"d/f", file("hi"), api.OK},
		{"l", link("d"), api.OK},
		{"x", run("x"), api.OK},
		{"d/g", api.Node{}, api.ErrNone},
		{"f", api.Node{}, api.ErrNone},
		{"l/f", api.Node{}, api.ErrNone},
		{"x/x", api.Node{}, api.ErrNone},
		{"d/f/g", api.Node{}, api.ErrNone},
		{"c/f", api.Node{}, api.ErrNone},
		{"dd", api.Node{}, api.ErrNone},
		{"D", api.Node{}, api.ErrNone},
		{strings.Repeat("d/", 40) + "d", api.Node{}, api.ErrNone},
		{strings.Repeat("n", 255), api.Node{}, api.ErrNone},
		{"...", api.Node{}, api.ErrNone},
		{"d/", api.Node{}, api.ErrArg},
		{"/d", api.Node{}, api.ErrArg},
		{"d//f", api.Node{}, api.ErrArg},
		{"..", api.Node{}, api.ErrArg},
		{".", api.Node{}, api.ErrArg},
		{"/", api.Node{}, api.ErrArg},
		{"d/.", api.Node{}, api.ErrArg},
		{"d/../d", api.Node{}, api.ErrArg},
		{"q/..", api.Node{}, api.ErrArg},
		{"q/q/", api.Node{}, api.ErrArg},
		{"\x00", api.Node{}, api.ErrArg},
		{"d/f\x00", api.Node{}, api.ErrArg},
		{strings.Repeat("n", 256), api.Node{}, api.ErrArg},
		{"q/" + strings.Repeat("n", 256), api.Node{}, api.ErrArg},
		{strings.Repeat("q/", 100000), api.Node{}, api.ErrArg},
	} {
		if m, e := Find(n, c.way); e != c.e || !alike(m, c.want) {
			t.Errorf("Find(%.40q) = %v, %d, want %v, %d", c.way, m, e, c.want, c.e)
		}
	}
	for _, leaf := range []api.Node{file("hi"), run(""), link("x"), dir()} {
		if m, e := Find(leaf, ""); e != api.OK || !alike(m, leaf) {
			t.Errorf("Find of the tree itself = %v, %d", m, e)
		}
		if m, e := Find(leaf, "a"); e != api.ErrNone || !alike(m, api.Node{}) {
			t.Errorf("Find in %v = %v, %d", leaf, m, e)
		}
	}
}

// plainNodes is a tree's nodes by their ways, in their order, each with its entries.
func plainNodes(way string, n api.Node) []api.Entry {
	out := []api.Entry{in(way, n)}
	for _, x := range n.List {
		inner := x.Name
		if way != "" {
			inner = way + "/" + x.Name
		}
		out = append(out, plainNodes(inner, x.Node)...)
	}
	return out
}

// P3.9: each node of a tree is found at its way, and none beside it.
func TestFindEach(t *testing.T) {
	for _, n := range append(samples(), grown(200)...) {
		for _, x := range plainNodes("", n) {
			if m, e := Find(n, x.Name); e != api.OK || !alike(m, x.Node) {
				t.Fatalf("Find(%q) = %v, %d, want %v", x.Name, m, e, x.Node)
			}
			other := x.Name + "~"
			if len(other) > 255 {
				continue
			}
			if m, e := Find(n, other); e != api.ErrNone || !alike(m, api.Node{}) {
				t.Fatalf("Find(%q) = %v, %d", other, m, e)
			}
		}
	}
	big := wide(4095, file("x"))
	for i := 0; i < 4095; i += 17 {
		big.List[i].Node = link(big.List[i].Name)
	}
	x := rand.New(rand.NewSource(39))
	for range 50 {
		i := x.Intn(4095)
		if m, e := Find(big, big.List[i].Name); e != api.OK || !alike(m, big.List[i].Node) {
			t.Fatalf("Find(%q) = %v, %d", big.List[i].Name, m, e)
		}
	}
}

// P3.13: what is handed in stays as it was, its spare room too; what is answered is new memory.
func TestMemory(t *testing.T) {
	for i, n := range append(samples(), grown(60)...) {
		given := roomy(n)
		hold := func(what string, answers []span) {
			t.Helper()
			apart(t, what, answers, spans(given))
			if !isRoomy(given, n) {
				t.Fatalf("tree %d: %s has changed what was handed in", i, what)
			}
		}
		Check(given)
		hold("Check", nil)
		Size(given)
		hold("Size", nil)
		data, _ := Print(given)
		hold("Print", []span{spanOf(data)})
		NewWriter(given)
		hold("NewWriter", nil)
		if !Equal(given, given) || !Equal(given, n) {
			t.Fatalf("tree %d is not equal to itself", i)
		}
		hold("Equal", nil)
		for _, x := range plainNodes("", n) {
			m, _ := Find(given, x.Name)
			hold("Find", spans(m))
		}
		var handed []span
		for _, m := range Each(given) {
			handed = append(handed, spans(m)...)
		}
		hold("Each", handed)
		hold("Flat", fileSpans(Flat(given)))
	}
}

// P3.13: lists of an answer share nothing, where those that were handed in share all.
func TestSharedMemory(t *testing.T) {
	data := []byte("one and the same bytes")
	leaf := api.Node{Kind: 1, Data: data}
	inner := dir(in("a", leaf), in("b", leaf), in("c", dir(in("a", leaf))))
	n := dir(in("a", inner), in("b", inner), in("c", leaf))
	if e, way := Check(n); e != api.OK {
		t.Fatalf("%d, %q", e, way)
	}
	m, e := Find(n, "")
	if e != api.OK || !alike(m, n) {
		t.Fatalf("Find = %d", e)
	}
	apart(t, "Find", spans(m), spans(n))
	files := Flat(n)
	apart(t, "Flat", fileSpans(files), spans(n))
	for i := range files {
		if files[i].Kind == 1 {
			files[i].Data = data
		}
	}
	m, e, at := Unflat(files)
	if e != api.OK || !alike(m, n) {
		t.Fatalf("Unflat = %d, %d", e, at)
	}
	apart(t, "Unflat", spans(m), fileSpans(files))
}
