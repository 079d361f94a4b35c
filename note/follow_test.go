package note

import (
	"math"
	"strings"
	"testing"

	"graft/api"
)

func TestEqual(t *testing.T) {
	notes := []api.Note{
		nullNote(), boolNote(false), boolNote(true), numNote(0), numNote(1), numNote(-1), numNote(0.1), numNote(math.Nextafter(0.1, 1)), textNote(""), textNote("a"), textNote("b"), textNote("null"), textNote("0"),
		listNote(), listNote(nullNote()), listNote(numNote(1)), listNote(numNote(1), numNote(2)), listNote(numNote(2), numNote(1)), listNote(listNote()), listNote(tableNote()), listNote(numNote(1), numNote(2), numNote(3)),
		tableNote(), tableNote(fieldOf("a", numNote(1))), tableNote(fieldOf("a", numNote(2))), tableNote(fieldOf("b", numNote(1))), tableNote(fieldOf("a", nullNote())), tableNote(fieldOf("a", numNote(1)), fieldOf("b", numNote(2))), tableNote(fieldOf("a", numNote(1)), fieldOf("c", numNote(2))), tableNote(fieldOf("a", numNote(2)), fieldOf("b", numNote(1))), tableNote(fieldOf("", listNote())), tableNote(fieldOf("", tableNote())),
		tableNote(fieldOf("e\u0301", nullNote())), tableNote(fieldOf("é", nullNote())), textNote("é"), textNote("e\u0301"),
	}
	for i, a := range notes {
		for j, b := range notes {
			if Equal(a, b) != (i == j) {
				t.Errorf("Equal(%s, %s)", said(a), said(b))
			}
			if Equal(listNote(a, a), listNote(a, b)) != (i == j) || Equal(tableNote(fieldOf("x", a), fieldOf("y", a)), tableNote(fieldOf("y", a), fieldOf("x", b))) != (i == j) {
				t.Errorf("Equal within a list or a table: %s, %s", said(a), said(b))
			}
		}
	}
	if !Equal(numNote(0), numNote(math.Copysign(0, -1))) {
		t.Error("0 and -0")
	}
	if !Equal(listNote(), api.Note{Kind: api.NoteList, List: []api.Note{}, Fields: []api.Field{}}) {
		t.Error("nil and empty")
	}
	a := tableNote(fieldOf("a", numNote(1)), fieldOf("b", tableNote(fieldOf("x", nullNote()), fieldOf("y", listNote()))), fieldOf("c", numNote(3)))
	b := tableNote(fieldOf("c", numNote(3)), fieldOf("b", tableNote(fieldOf("y", listNote()), fieldOf("x", nullNote()))), fieldOf("a", numNote(1)))
	if !Equal(a, b) || !Equal(b, a) {
		t.Error("another order")
	}
}

// What may not be equals nothing, not even itself.
func TestEqualFaults(t *testing.T) {
	for _, bad := range []api.Note{{}, {Kind: 7}, numNote(math.NaN()), numNote(math.Inf(1)), textNote("\xff"), {Kind: api.NoteNull, Bool: true}, tableNote(fieldOf("a", nullNote()), fieldOf("a", nullNote())), tableNote(fieldOf("\xff", nullNote())), storeys(65, false, nullNote()), textNote(strings.Repeat("x", 65535)), textNote(strings.Repeat("\x01", 20000))} {
		if Equal(bad, bad) || Equal(bad, nullNote()) || Equal(nullNote(), bad) || Equal(listNote(bad), listNote(bad)) {
			t.Errorf("Equal of %.60s", said(bad))
		}
	}
}

// turned is a note with its tables' fields in another order.
func turned(n api.Note, by int) api.Note {
	out := n
	out.List, out.Fields = nil, nil
	for _, x := range n.List {
		out.List = append(out.List, turned(x, by))
	}
	for i := range n.Fields {
		f := n.Fields[(i+by)%len(n.Fields)]
		out.Fields = append(out.Fields, fieldOf(f.Name, turned(f.Note, by)))
	}
	return out
}

// There and back, by Print and by Canon; equal notes have one Canon, and others have not.
func TestThereAndBack(t *testing.T) {
	r := sourceOf(8)
	var notes []api.Note
	for range 400 {
		n := someNote(r, 2)
		notes = append(notes, n, turned(n, 1))
	}
	canons := make([]string, len(notes))
	for i, n := range notes {
		print, e := Print(n)
		canon, f := Canon(n)
		if e != api.OK || f != api.OK {
			t.Fatalf("%s: %d, %d", said(n), e, f)
		}
		canons[i] = canon
		m, e, _ := Parse(print)
		again, _ := Print(m)
		if e != api.OK || Check(m) != api.OK || again != print || !Equal(m, n) || said(m) != said(n) {
			t.Fatalf("%s: Parse of its print is %s, %d", said(n), said(m), e)
		}
		m, e, _ = Parse(canon)
		again, _ = Print(m)
		once, _ := Canon(m)
		if e != api.OK || Check(m) != api.OK || again != canon || once != canon || !Equal(m, n) {
			t.Fatalf("%s: Parse of its Canon is %s, %d", said(n), said(m), e)
		}
	}
	same := 0
	for i := range notes {
		for j := range notes {
			equal := Equal(notes[i], notes[j])
			if equal != (canons[i] == canons[j]) || equal != plainEqual(notes[i], notes[j]) {
				t.Fatalf("Equal(%s, %s) = %v", said(notes[i]), said(notes[j]), equal)
			}
			if equal && i != j {
				same++
			}
		}
	}
	if same < 800 {
		t.Errorf("only %d pairs are equal", same)
	}
}

// What Parse takes, Check takes too, but for a print that is too long by its numbers; and what prints is read as an equal note.
func TestParseAndCheck(t *testing.T) {
	texts := append([]string{
		"[" + strings.Repeat("1e9,", 16383) + "1]", "[" + strings.Repeat("1e20,", 13106) + "1]", strings.Repeat(" ", 65530) + "1E5", "\"" + strings.Repeat("\\u0001", 10922) + "\"", "\"" + strings.Repeat("\\n", 32767) + "\"", "\"" + strings.Repeat("/", 65534) + "\"", "\"" + strings.Repeat("\x7f", 65534) + "\"",
		"[" + strings.Repeat("[],", 21844) + "1]", "[" + strings.Repeat("0,", 32766) + "12]", "[" + strings.Repeat("{},", 21844) + "1]", strings.Repeat("[", 64) + strings.Repeat("]", 64), "[" + strings.Repeat("\"\",", 21844) + "1]", "[1E5,1e2,0.10,1.0,-0,100000000000000000000000]",
	}, samples...)
	long := 0
	for i, text := range texts {
		n, e, _ := Parse(text)
		if e != api.OK {
			t.Fatalf("Parse(%.60q): %d", text, e)
		}
		switch e := Check(n); e {
		case api.OK:
			print, _ := Print(n)
			m, e, _ := Parse(print)
			if e != api.OK || !Equal(m, n) {
				t.Errorf("text %d: its print is read as another note: %d", i, e)
			}
		case api.ErrLong:
			long++
		default:
			t.Errorf("Check(Parse(%.60q)) = %d", text, e)
		}
	}
	if long != 2 {
		t.Errorf("%d prints are too long", long)
	}
}

// The same asked again is answered the same, whatever was asked between.
func TestAgain(t *testing.T) {
	r := sourceOf(9)
	for range 300 {
		n, other := someNote(r, 3), someNote(r, 3)
		first, _ := Canon(n)
		Canon(other)
		Parse(first + "x")
		if second, _ := Canon(n); second != first {
			t.Fatalf("%q, %q", first, second)
		}
	}
}
