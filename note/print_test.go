package note

import (
	"fmt"
	"math"
	"slices"
	"strings"
	"testing"
	"unicode/utf16"

	"graft/api"
)

func TestPrintTexts(t *testing.T) {
	for c := range rune(0x3000) {
		n := textNote("a" + string(c) + "b")
		holdPlain(t, n)
		holdPlain(t, tableNote(fieldOf(string(c), n)))
	}
	all := "\"\\/\b\t\n\f\r\x00\x01\x0b\x1f \x7f\u0080\u2028\ufffd\uffff\U0001f600"
	want := `"\"\\/\b\t\n\f\r\u0000\u0001\u000b\u001f ` + "\x7f\u0080\u2028\ufffd\uffff\U0001f600\""
	for _, call := range []func(api.Note) (string, api.Errno){Print, Canon} {
		if s, e := call(textNote(all)); s != want || e != api.OK {
			t.Errorf("%q, %d", s, e)
		}
		if s, e := call(tableNote(fieldOf(all, textNote(all)))); s != "{"+want+":"+want+"}" || e != api.OK {
			t.Errorf("%q, %d", s, e)
		}
	}
}

func TestPrintForms(t *testing.T) {
	for want, n := range map[string]api.Note{
		"null": nullNote(), "true": boolNote(true), "false": boolNote(false), "0": numNote(math.Copysign(0, -1)), "-1.5": numNote(-1.5), "1e+21": numNote(1e21), `""`: textNote(""),
		"[]": listNote(), "{}": tableNote(), "[[]]": listNote(listNote()), "[1]": listNote(numNote(1)), "[null,true,[false,{}],\"a\"]": listNote(nullNote(), boolNote(true), listNote(boolNote(false), tableNote()), textNote("a")),
		`{"a":1}`: tableNote(fieldOf("a", numNote(1))), `{"":[],"b":{"a":null}}`: tableNote(fieldOf("", listNote()), fieldOf("b", tableNote(fieldOf("a", nullNote())))),
	} {
		for _, call := range []func(api.Note) (string, api.Errno){Print, Canon} {
			if s, e := call(n); s != want || e != api.OK {
				t.Errorf("%q, %d; want %q", s, e, want)
			}
		}
		holdPlain(t, n)
	}
}

// Print keeps the fields' order, Canon puts them in the order of their names, in every table.
func TestCanonOrder(t *testing.T) {
	inner := tableNote(fieldOf("b", numNote(1)), fieldOf("a", numNote(2)))
	n := tableNote(fieldOf("b", numNote(1)), fieldOf("a", listNote(inner, inner)), fieldOf("", inner))
	if s, _ := Print(n); s != `{"b":1,"a":[{"b":1,"a":2},{"b":1,"a":2}],"":{"b":1,"a":2}}` {
		t.Errorf("%s", s)
	}
	if s, _ := Canon(n); s != `{"":{"a":2,"b":1},"a":[{"a":2,"b":1},{"a":2,"b":1}],"b":1}` {
		t.Errorf("%s", s)
	}
	sorted := []string{"", "\x00", "\n", " ", "\"", "1", "10", "2", "A", "\\", "a", "a\x00", "aa", "ab", "b", "\x7f", "\u0080", "é", "\u07ff", "\u0800", "\ud7ff", "\U00010000", "\U00010000a", "\U00010000\U00010000", "\U00010001", "\U000103ff", "\U00010400", "\U0001f600", "\U0010ffff", "\ue000", "\ufb33", "\ufffd", "\uffff", "\uffff\U00010000"}
	if !slices.IsSortedFunc(sorted, func(a, b string) int {
		return slices.Compare(utf16.Encode([]rune(a)), utf16.Encode([]rune(b)))
	}) {
		t.Fatal("the names are not in order")
	}
	var want []string
	for i, name := range sorted {
		want = append(want, plainQuote(name)+":"+fmt.Sprint(i))
	}
	r := sourceOf(7)
	for range 200 {
		var n api.Note
		n.Kind = api.NoteTable
		for _, i := range r.Perm(len(sorted)) {
			n.Fields = append(n.Fields, fieldOf(sorted[i], numNote(float64(i))))
		}
		if s, e := Canon(n); e != api.OK || s != "{"+strings.Join(want, ",")+"}" {
			t.Fatalf("%s, %d", s, e)
		}
		holdPlain(t, n)
	}
	for _, a := range sorted {
		for _, b := range sorted {
			holdPlain(t, tableNote(fieldOf(a, numNote(1)), fieldOf(b, numNote(2))))
		}
	}
}

func TestCanonMany(t *testing.T) {
	var n api.Note
	n.Kind = api.NoteTable
	for i := range 5000 {
		n.Fields = append(n.Fields, fieldOf(fmt.Sprintf("%04d", (i*2654435761)%5000), numNote(float64(i%10))))
	}
	holdPlain(t, n)
}
