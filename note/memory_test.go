package note

import (
	"testing"
	"unsafe"

	"graft/api"
)

// roomy is a note whose lists lie in new memory with room behind them, in which something stands.
func roomy(n api.Note) api.Note {
	behind := api.Note{Kind: 77, Text: "behind"}
	list := make([]api.Note, 0, len(n.List)+2)
	for _, x := range n.List {
		list = append(list, roomy(x))
	}
	fields := make([]api.Field, 0, len(n.Fields)+2)
	for _, f := range n.Fields {
		fields = append(fields, fieldOf(f.Name, roomy(f.Note)))
	}
	n.List = append(list, behind, behind)[:len(list)]
	n.Fields = append(fields, fieldOf("behind", behind), fieldOf("behind", behind))[:len(fields)]
	return n
}

// whole is all that a note holds, with the room behind its lists.
func whole(n api.Note) string {
	full := n
	full.List, full.Fields = n.List[:cap(n.List)], n.Fields[:cap(n.Fields)]
	out := said(full)
	for _, x := range n.List {
		out += whole(x)
	}
	for _, f := range n.Fields {
		out += whole(f.Note)
	}
	return out
}

// span of memory: from a list's first byte to the end of the room behind it.
type stretch struct{ from, to uintptr }

func stretchOf[T any](list []T) []stretch {
	if cap(list) == 0 {
		return nil
	}
	var one T
	from := uintptr(unsafe.Pointer(unsafe.SliceData(list)))
	return []stretch{{from, from + uintptr(cap(list))*unsafe.Sizeof(one)}}
}

// stretches is where the lists of a note lie.
func stretches(n api.Note) []stretch {
	out := append(stretchOf(n.List), stretchOf(n.Fields)...)
	for _, x := range n.List {
		out = append(out, stretches(x)...)
	}
	for _, f := range n.Fields {
		out = append(out, stretches(f.Note)...)
	}
	return out
}

func apart(t *testing.T, notes ...api.Note) {
	t.Helper()
	var all []stretch
	for _, n := range notes {
		all = append(all, stretches(n)...)
	}
	for i, a := range all {
		for _, b := range all[:i] {
			if a.from < b.to && b.from < a.to {
				t.Fatalf("two lists share memory")
			}
		}
	}
}

// What is handed in stays as it was, its spare room too.
func TestHandedIn(t *testing.T) {
	r := sourceOf(10)
	notes := []api.Note{{}, {Kind: api.NoteNull, List: []api.Note{nullNote()}}, findings(), textNote("\xff"), tableNote(fieldOf("b", nullNote()), fieldOf("a", nullNote()))}
	for range 300 {
		notes = append(notes, someNote(r, 3))
	}
	for _, plain := range notes {
		n := roomy(plain)
		before := whole(n)
		Check(n)
		Print(n)
		Canon(n)
		Int(n)
		Equal(n, n)
		Equal(n, plain)
		for _, way := range []string{"", "/0", "/a", "/", "/1/0", "x"} {
			Find(n, way)
		}
		if whole(n) != before {
			t.Fatalf("%s was changed", said(plain))
		}
	}
}

// What is handed out has no memory in common with what was handed in, with another answer, or within itself.
func TestHandedOut(t *testing.T) {
	r := sourceOf(11)
	part := []api.Note{listNote(numNote(1)), tableNote(fieldOf("a", listNote()))}
	notes := []api.Note{findings(), listNote(listNote(part...), listNote(part...), listNote(part[:1]...))}
	for range 300 {
		notes = append(notes, someNote(r, 3))
	}
	for _, n := range notes {
		answers := []api.Note{}
		for _, way := range []string{"", "", "/0", "/1", "/a", "/a~1b", "/~1~1/"} {
			m, _ := Find(n, way)
			answers = append(answers, m)
		}
		text, _ := Print(n)
		for range 2 {
			m, e, _ := Parse(text)
			if e != api.OK {
				t.Fatal(e)
			}
			answers = append(answers, m)
		}
		apart(t, answers...)
		for _, m := range answers {
			for _, a := range stretches(m) {
				for _, b := range stretches(n) {
					if a.from < b.to && b.from < a.to {
						t.Fatalf("an answer shares memory with what was handed in: %s", said(n))
					}
				}
			}
		}
	}
}

// What is written into an answer shows in no later one.
func TestHandedOutLater(t *testing.T) {
	n := findings()
	before := said(n)
	m, _ := Find(n, "/a")
	for i := range m.List {
		m.List[i] = textNote("other")
	}
	_ = append(m.List, textNote("more"))
	if said(n) != before {
		t.Error("what was handed in was changed by way of an answer")
	}
	again, _ := Find(n, "/a")
	if again.List[0].Num != 100 {
		t.Error("a later answer was changed by way of an earlier one")
	}
}

// Nil and empty lists are the same, handed in.
func TestNilAndEmpty(t *testing.T) {
	for _, kind := range []int{1, 2, 3, 4, 5, 6, 0} {
		a, b := api.Note{Kind: kind}, api.Note{Kind: kind, List: []api.Note{}, Fields: []api.Field{}}
		if Check(a) != Check(b) || Equal(a, b) != (kind > 0) {
			t.Errorf("kind %d: %d, %d", kind, Check(a), Check(b))
		}
		s, _ := Print(a)
		if u, _ := Print(b); u != s {
			t.Errorf("kind %d: %q, %q", kind, s, u)
		}
		m, _ := Find(a, "")
		if u, _ := Find(b, ""); said(m) != said(u) {
			t.Errorf("kind %d: %s, %s", kind, said(m), said(u))
		}
	}
}
