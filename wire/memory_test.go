package wire

import (
	"bytes"
	"fmt"
	"slices"
	"strings"
	"testing"

	"graft/api"
)

// What is handed in stays as it was, its spare room too, and is not kept; what is handed out is new memory.

// roomyAsk is a request whose lists have room behind them.
func roomyAsk(a api.Ask) api.Ask {
	a.Labels, a.Data = roomy(a.Labels, named(99, "room")), roomy(a.Data, '!')
	return a
}

// whole is all of two lists, the room behind them too.
func whole(labels []api.Label, data []byte) string {
	return showLabels(labels[:cap(labels)]) + string(data[:cap(data)])
}

func TestEncodeMemory(t *testing.T) {
	bad := api.Ask{Op: api.OpText, Labels: []api.Label{la, {}}, Data: []byte("d")}
	for _, a := range []api.Ask{fullAsk(api.OpText), fullAsk(api.OpImport), fullAsk(api.OpRewrite), bad, {Op: 12, Labels: []api.Label{la}, Data: []byte("d")}, {Op: api.OpList, Data: []byte("d")}} {
		a = roomyAsk(a)
		before := whole(a.Labels, a.Data)
		one, e := Encode(a)
		two, f := EncodeSay(api.Say{Labels: a.Labels, Text: a.Text, Data: a.Data, Number: a.Number})
		if whole(a.Labels, a.Data) != before {
			t.Errorf("Encode, %d, %d: what was handed in has changed", e, f)
		}
		first, second := string(one), string(two)
		overwrite(a.Data, '?')
		overwrite(a.Labels, lc)
		if string(one) != first || string(two) != second {
			t.Errorf("Encode, %d, %d: what was handed in is kept", e, f)
		}
		overwrite(one, '?')
		if string(two) != second {
			t.Error("Encode: two answers share memory")
		}
	}
	// Bytes that are handed out are no part of what was handed in.
	a := roomyAsk(fullAsk(api.OpText))
	before := whole(a.Labels, a.Data)
	b, _ := Encode(a)
	overwrite(b, '?')
	if whole(a.Labels, a.Data) != before {
		t.Error("Encode: bytes that are handed out share memory with what was handed in")
	}
}

func TestDecodeMemory(t *testing.T) {
	right := bytesOf(t, fullAsk(api.OpText))
	for _, x := range []string{right, right + "behind", right[:60], right[:len(right)-1], number(12), right[:len(right)-8] + number(1)} {
		data := roomy([]byte(x), '!')
		before := string(data[:cap(data)])
		one, _, _ := Decode(data)
		two, _, _ := Decode(data)
		say, _, _ := DecodeSay(data)
		more, _, _ := DecodeSay(data)
		if string(data[:cap(data)]) != before {
			t.Error("Decode: what was handed in has changed")
		}
		shown, said := showAsk(one), showSay(say)
		overwrite(two.Data, '?')
		overwrite(two.Labels, lc)
		overwrite(more.Data, '?')
		overwrite(more.Labels, lc)
		if string(data[:cap(data)]) != before || showAsk(one) != shown || showSay(say) != said {
			t.Error("Decode: what is handed out shares memory")
		}
		overwrite(data, '?')
		if showAsk(one) != shown || showSay(say) != said {
			t.Error("Decode: what was handed in is kept")
		}
		labels := showLabels(one.Labels)
		overwrite(one.Data, '?')
		if showLabels(one.Labels) != labels || showSay(say) != said {
			t.Error("Decode: two lists of an answer share memory")
		}
	}
}

// A session keeps none of the pieces, and none of the bytes that it has answered.
func TestSessionMemory(t *testing.T) {
	data := script(t)
	plain := newWorld(t, 1<<20)
	want, _ := plainSession(plain.e, data)
	source := sourceOf(8)
	for _, most := range []int{1, 10, 100, 1000, 100000} {
		w := newWorld(t, 1<<20)
		s := NewSession(w.e)
		var got strings.Builder
		for _, x := range piecesOf(source, data, most) {
			p := roomy([]byte(x), '!')
			before := string(p[:cap(p)])
			out := s.Feed(p)
			if string(p[:cap(p)]) != before {
				t.Fatalf("Feed: what was handed in has changed")
			}
			got.Write(out)
			overwrite(out, '?')
			if string(p[:cap(p)]) != before {
				t.Fatalf("Feed: what is handed out shares memory with what was handed in")
			}
			overwrite(p, '?')
		}
		if got.String() != want || w.state() != plain.state() {
			t.Errorf("Feed, pieces of at most %d: something is kept", most)
		}
	}
}

// What a session has answered has no memory in common with the store.
func TestAnswerMemory(t *testing.T) {
	w := newWorld(t, 1<<20)
	w.lay(holding(la, digits(lb), lb), holding(lb, "b"))
	s := greeted(t, w)
	for _, a := range []api.Ask{{Op: api.OpRead, Labels: []api.Label{la}}, {Op: api.OpList}, {Op: api.OpExport, Labels: []api.Label{la}}, {Op: api.OpRewrite, Labels: []api.Label{la}, Number: 1}, {Op: api.OpText, Text: "t", Data: []byte("t")}} {
		data := bytesOf(t, a)
		out := s.Feed([]byte(data))
		want, state := string(out), w.state()
		overwrite(out, '?')
		again := s.Feed([]byte(data))
		if w.state() != state || a.Op != api.OpRewrite && string(again) != want {
			t.Errorf("%s: what is handed out shares memory with the store", showAsk(a))
		}
	}
}

func roomyObjects(objects ...api.Object) []api.Object {
	objects = slices.Clone(objects)
	for i, o := range objects {
		objects[i].Ark, objects[i].Refs = roomy(o.Ark, '!'), roomy(o.Refs, named(99, "room"))
	}
	return roomy(objects, api.Object{Maker: "!"})
}

// wholeObjects is all of objects, the room behind their lists too.
func wholeObjects(objects []api.Object) string {
	var out strings.Builder
	for _, o := range objects[:cap(objects)] {
		fmt.Fprintf(&out, "%v %q %d %s\n", o.Label, o.Maker, o.Ca, whole(o.Refs, o.Ark))
	}
	return out.String()
}

func TestExportMemory(t *testing.T) {
	a, b := holding(la, "a", la, lb), holding(lb, "b")
	for _, list := range [][]api.Object{nil, {a, b}, {b, {Label: lc, Refs: []api.Label{lb, la}, Ark: file("c")}}, {a, {Label: lc, Ark: file("c")[:100]}}, slices.Repeat([]api.Object{a}, 4097)} {
		objects := roomyObjects(list...)
		before := wholeObjects(objects)
		one, _ := Export(objects)
		two, _ := Export(objects)
		want := string(two)
		overwrite(one, '?')
		if wholeObjects(objects) != before || string(two) != want {
			t.Error("Export: memory is shared, or what was handed in has changed")
		}
		for _, o := range objects {
			overwrite(o.Ark, '?')
			overwrite(o.Refs, lc)
		}
		overwrite(objects, api.Object{})
		if string(two) != want {
			t.Error("Export: what was handed in is kept")
		}
	}
	// Objects may share memory with one another.
	data := slices.Concat(file("1"), file("2"))
	refs := []api.Label{la, lb, lc}
	objects := []api.Object{{Label: la, Ark: data[:120], Refs: refs[:2]}, {Label: lb, Ark: data[120:], Refs: refs[1:]}, {Label: lc, Ark: data[:120], Refs: refs}}
	exports(t, objects, streamOf(objects...))
}

// An Intake keeps none of the pieces; the objects that it gives have no memory in common with them, or with one another.
func TestIntakeMemory(t *testing.T) {
	data := some()
	want, _, _ := plainIntake(data)
	source := sourceOf(9)
	for _, most := range []int{1, 10, 100, 1000, 100000} {
		n := NewIntake()
		var kept [][]byte
		for _, x := range piecesOf(source, data, most) {
			p := roomy([]byte(x), '!')
			n.Feed(p)
			if string(p) != x || !bytes.Equal(p[len(p):cap(p)], bytes.Repeat([]byte("!"), cap(p)-len(p))) {
				t.Fatal("Feed: what was handed in has changed")
			}
			overwrite(p, '?')
			kept = append(kept, p)
		}
		objects, e, _ := n.Close()
		if e != api.OK || showObjects(objects) != showObjects(want) {
			t.Fatalf("Feed, pieces of at most %d: what was handed in is kept: %d", most, e)
		}
		for i, o := range objects {
			overwrite(o.Ark, '#')
			overwrite(o.Refs, named(98, "over"))
			for k, x := range objects {
				if k > i && showObjects([]api.Object{x}) != showObjects(want[k:k+1]) {
					t.Error("Close: two objects share memory")
				}
			}
			for _, p := range kept {
				if bytes.IndexByte(p[:cap(p)], '#') >= 0 {
					t.Error("Close: an object shares memory with what was handed in")
				}
			}
		}
		overwrite(objects, api.Object{})
		again := NewIntake()
		again.Feed([]byte(data))
		if l, _, _ := again.Close(); showObjects(l) != showObjects(want) {
			t.Error("Close: two answers share memory")
		}
	}
}

// An error too leaves what was handed in as it was.
func TestIntakeFaultMemory(t *testing.T) {
	for what, x := range faults() {
		p := roomy([]byte(x.data), '!')
		before := string(p[:cap(p)])
		NewIntake().Feed(p)
		if string(p[:cap(p)]) != before {
			t.Fatalf("Feed, %s: what was handed in has changed", what)
		}
	}
}
