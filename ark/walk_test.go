package ark

import (
	"strings"
	"testing"

	"graft/api"
)

// bare is a node without its entries.
func bare(n api.Node) api.Node {
	n.List = nil
	return n
}

// holdEach holds one going over a tree against its nodes.
func holdEach(t *testing.T, seq func(func(string, api.Node) bool), want []api.Entry) {
	t.Helper()
	i := 0
	for way, m := range seq {
		if i == len(want) {
			t.Fatalf("Each hands out %q behind the end", way)
		}
		if way != want[i].Name || !alike(m, bare(want[i].Node)) {
			t.Fatalf("Each, number %d: %q, %v, want %q, %v", i, way, m, want[i].Name, want[i].Node)
		}
		i++
	}
	if i != len(want) {
		t.Fatalf("Each hands out %d nodes, want %d", i, len(want))
	}
}

// P3.10: each node, in their order, again and again.
func TestEach(t *testing.T) {
	for _, n := range append(samples(), append(grown(300), wide(4095, link("x")))...) {
		seq := Each(n)
		for range 2 {
			holdEach(t, seq, plainNodes("", n))
		}
	}
	want := []string{"", "a", "a/b", "a/b/c", "a!", "b"}
	i := 0
	for way := range Each(dir(in("a", dir(in("b", dir(in("c", file("")))))), in("a!", dir()), in("b", link("a")))) {
		if way != want[i] {
			t.Errorf("number %d is %q, want %q", i, way, want[i])
		}
		i++
	}
}

// P3.10: it stops when who asks has had enough, and begins anew then.
func TestEachStopped(t *testing.T) {
	n := dir(in("a", dir(in("b", dir(in("c", file("x")))), in("d", link("y")))), in("e", file("z")))
	want := plainNodes("", n)
	seq := Each(n)
	for stop := 1; stop <= len(want); stop++ {
		count := 0
		seq(func(way string, m api.Node) bool {
			if way != want[count].Name {
				t.Errorf("number %d is %q", count, way)
			}
			count++
			return count < stop
		})
		if count != stop {
			t.Errorf("it went on to %d behind %d", count, stop)
		}
	}
	holdEach(t, seq, want)
}

// P3.10: within itself.
func TestEachNested(t *testing.T) {
	n := dir(in("a", dir(in("b", file("x")))), in("c", link("y")))
	want := plainNodes("", n)
	seq := Each(n)
	i := 0
	for way, m := range seq {
		if way != want[i].Name || !alike(m, bare(want[i].Node)) {
			t.Errorf("outer number %d: %q, %v", i, way, m)
		}
		holdEach(t, seq, want)
		for range seq {
			break
		}
		i++
	}
	if i != len(want) {
		t.Errorf("the outer one came to %d", i)
	}
}

// P3.10: it goes over the tree as it was at the call, whatever is written there or into what it hands out.
func TestEachAsItWas(t *testing.T) {
	make := func() api.Node {
		return dir(in("a", file("some bytes")), in("d", dir(in("f", run("x")), in("l", link("f")))))
	}
	n := make()
	want := plainNodes("", make())
	seq := Each(n)
	n.List[0].Node.Data[0] = 'X'
	n.List[1].Node.List[0] = in("zz", api.Node{Kind: 9})
	n.List[1].Node.List = nil
	n.List[0].Name = "changed"
	holdEach(t, seq, want)
	for _, m := range seq {
		data := m.Data[:cap(m.Data)]
		for i := range data {
			data[i] = '?'
		}
		m.Link = "?"
	}
	holdEach(t, seq, want)
	i := 0
	for _, m := range seq { // what is changed in the midst of it shows nowhere either
		n.List[i%2].Node = file("?")
		clear(m.Data)
		i++
	}
	holdEach(t, seq, want)
}

// P3.10: it never hands out the same memory twice.
func TestEachMemory(t *testing.T) {
	n := dir(in("a", file("some bytes")), in("b", file("others")), in("d", dir(in("f", run("x")))))
	seq := Each(n)
	var handed []span
	var keep []api.Node // what is let go might come again
	for range 3 {
		for _, m := range seq {
			keep = append(keep, m)
			handed = append(handed, spans(m)...)
		}
	}
	apart(t, "Each", handed, spans(n))
	if len(keep) != 15 {
		t.Errorf("%d nodes", len(keep))
	}
}

// P3.10: of what is no tree nothing comes, again and again.
func TestEachOfNone(t *testing.T) {
	for _, n := range []api.Node{{}, {Kind: 4}, dir(in("", dir())), chain(33, dir()), link(""), file(strings.Repeat("x", 1<<20))} {
		seq := Each(n)
		for range 2 {
			holdEach(t, seq, nil)
		}
	}
}
