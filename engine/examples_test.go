package engine

import (
	"slices"
	"testing"

	"graft/api"
	"graft/label"
	"graft/modulo"
)

// The examples of the chapter, by their numbers.

// la, lb and lc are in order, and less than all named ones from 4 on.
var (
	la = digited("0a"+part(numbered(101, ""))[2:], "a")
	lb = digited("0b"+part(numbered(102, ""))[2:], "b")
	lc = digited("0c"+part(numbered(103, ""))[2:], "c")
)

func TestExample1(t *testing.T) {
	w := newWorld(t, holding(la, "hi"))
	o := w.e.Rewrite([]api.Label{la}, 4)
	n, e, _ := modulo.Group([]api.Member{{Name: "a", Ark: file("hi")}})
	A, _ := label.Member(n.Sum, 0, "a")
	if e != api.OK || show(o) != show(api.Outcome{Map: []api.Same{{Old: la, New: A}}}) {
		t.Fatalf("P15.5: %s", show(o))
	}
	if l, e := w.e.Lookup(la); l != A || e != api.OK {
		t.Errorf("P15.6: %s, %d", showLabel(l), e)
	}
	if x, e := w.e.Read(A); e != api.OK || showObject(x) != showObject(api.Object{Label: A, Ark: file("hi"), Ca: api.ByGroup}) {
		t.Errorf("P15.6: %s, %d", showObject(x), e)
	}
}

func TestExample2(t *testing.T) {
	w := newWorld(t, holding(la, "see "+part(lb), lb), holding(lb, "hi"))
	r := w.rename(la)
	A, B := r[la], r[lb]
	if w.bytes(A) != "see "+part(B) || w.bytes(B) != "hi" || !slices.Equal(w.refs(A), []api.Label{B}) || len(w.refs(B)) != 0 {
		t.Errorf("P15.5: %q, %q", w.bytes(A), w.bytes(B))
	}
	want := api.Outcome{}
	for _, l := range sorted(A, B) {
		want.Map = append(want.Map, api.Same{Old: l, New: l})
	}
	w.refuses("P15.5", func() api.Outcome { return w.e.Rewrite([]api.Label{A}, 7) }, want)
}

func TestExample3(t *testing.T) {
	w := newWorld(t, holding(la, part(la), la))
	A := w.rename(la)[la]
	if w.bytes(A) != part(A) || !slices.Equal(w.refs(A), []api.Label{A}) {
		t.Errorf("P15.5: %q, %s", w.bytes(A), showLabels(w.refs(A)))
	}
}

func TestExample4(t *testing.T) {
	w := newWorld(t, holding(la, "1"+part(lb), lb), holding(lb, "2"+part(la), la))
	r := w.rename(lb)
	if A, B := r[la], r[lb]; w.bytes(A) != "1"+part(B) || w.bytes(B) != "2"+part(A) {
		t.Errorf("P15.5: %q, %q", w.bytes(A), w.bytes(B))
	}
	x, y := named(1, "x"), named(2, "x")
	newWorld(t, holding(x, "1"+part(y), y), holding(y, "2"+part(x), x)).
		denies("P15.5", api.Outcome{Err: api.ErrTwins, At: x, Other: y}, y)
}

func TestExample5(t *testing.T) {
	newWorld(t, holding(la, "hi", lb), holding(lb, "hi")).
		denies("P15.5", api.Outcome{Err: api.ErrScan, At: la, Other: lb}, la)
	newWorld(t, holding(la, part(lb)), holding(lb, "hi"), holding(lc, part(la)+part(lb), la, lb)).
		denies("P15.5", api.Outcome{Err: api.ErrScan, At: la, Other: lb, Place: 96}, lc)
	w := newWorld(t, holding(la, part(lb)), holding(lb, "hi"))
	w.denies("P15.5", api.Outcome{Err: api.ErrScan, At: la, Other: lb, Place: 96}, la, lb)
	// Alone it is not in the closure, so it is no mention.
	if r := w.rename(la); len(r) != 1 || w.bytes(r[la]) != part(lb) {
		t.Errorf("P15.5: %v", r)
	}
}

func TestExample6(t *testing.T) {
	data := arkOf(dir(entry(part(lb), fileNode("x"))))
	newWorld(t, guest(la, data, lb), holding(lb, "hi")).
		denies("P15.5", api.Outcome{Err: api.ErrInName, At: la, Place: placeOf(data, part(lb))}, la)
	newWorld(t, guest(la, data), holding(lb, "hi")).
		denies("P15.5", api.Outcome{Err: api.ErrScan, At: la, Other: lb, Place: placeOf(data, part(lb))}, la, lb)
}

func TestExample7(t *testing.T) {
	middle := "0123456789"
	b, c := digited("aaaaaaaaaaaaaaaaaaaaaa"+middle, "b"), digited(middle+"cccccccccccccccccccccc", "c")
	both := part(b) + "cccccccccccccccccccccc"
	if len(both) != 54 {
		t.Fatalf("%d bytes", len(both))
	}
	newWorld(t, holding(la, both, b, c), holding(b, "hi"), holding(c, "hi")).
		denies("P15.5", api.Outcome{Err: api.ErrCross, At: la, Place: fileAt + 22}, la)
}

func TestExample8(t *testing.T) {
	other := named(9, "a")
	w := newWorld(t, holding(la, "hi"), holding(other, "hi"))
	before := w.e.Shelf().Stat()
	r := w.rename(other, la)
	after := w.e.Shelf().Stat()
	if r[la] != r[other] || after.Objects != before.Objects+1 || after.Sames != 2 || after.Arks != before.Arks {
		t.Errorf("P15.5: %v, %+v", r, after)
	}
}

func TestExample9(t *testing.T) {
	A := newWorld(t, holding(la, "hi")).rename(la)[la]
	w := newWorld(t, holding(la, "hi"))
	text := w.text("t", "it is "+part(A))
	w.denies("P15.5", api.Outcome{Err: api.ErrStray, At: text, Place: fileAt + 6}, la, text)
}

func TestExample10(t *testing.T) {
	w := newWorld(t)
	own := w.text("own", "own")
	text := w.text("t", "see "+part(own))
	w.denies("P15.5", api.Outcome{Err: api.ErrScan, At: text, Other: own, Place: fileAt + 4}, own, text)
	tree := w.tree("d", dir(entry("l", link(part(own)))))
	o, _ := w.e.Read(tree)
	w.denies("P15.5", api.Outcome{Err: api.ErrScan, At: tree, Other: own, Place: placeOf(o.Ark, part(own))}, own, tree)
	w.rename(own)
	w.rename(text)
	w.rename(tree)
}

func TestExample11(t *testing.T) {
	w := newWorld(t, holding(la, "hi"))
	A := w.rename(la)[la]
	w.drop(la)
	w.take(holding(la, "other"))
	w.denies("P15.5", api.Outcome{Err: api.ErrTable, At: la, Other: A}, la)
	w.drop(A)
	if l := w.rename(la)[la]; l == A || w.bytes(l) != "other" {
		t.Errorf("P15.5: %s", showLabel(l))
	}
}

// placeOf is where a text stands in an archive.
func placeOf(data []byte, text string) int {
	for at := range data {
		if len(data[at:]) >= len(text) && string(data[at:][:len(text)]) == text {
			return at
		}
	}
	panic("no such text")
}
