package note

import (
	"math"
	"strings"
	"testing"

	"graft/api"
)

// storeys is a note in so many lists or tables.
func storeys(n int, tables bool, inner api.Note) api.Note {
	for range n {
		if tables {
			inner = tableNote(fieldOf("a", inner))
		} else {
			inner = listNote(inner)
		}
	}
	return inner
}

func many(n int, of api.Note) []api.Note {
	out := make([]api.Note, n)
	for i := range out {
		out[i] = of
	}
	return out
}

func TestCheckKinds(t *testing.T) {
	for kind := -2; kind <= 9; kind++ {
		for set := range 32 {
			n := api.Note{Kind: kind}
			if set&1 > 0 {
				n.Bool = true
			}
			if set&2 > 0 {
				n.Num = 1.5
			}
			if set&4 > 0 {
				n.Text = "x"
			}
			if set&8 > 0 {
				n.List = []api.Note{nullNote()}
			}
			if set&16 > 0 {
				n.Fields = []api.Field{fieldOf("x", nullNote())}
			}
			holdPlain(t, n)
			holdPlain(t, listNote(n))
			holdPlain(t, tableNote(fieldOf("", n)))
			used := map[int]int{1: 0, 2: 1, 3: 2, 4: 4, 5: 8, 6: 16}
			bits, known := used[kind]
			if want := known && set&^bits == 0; (Check(n) == api.OK) != want || !want && Check(n) != api.ErrNote {
				t.Errorf("kind %d with fields %05b: %d", kind, set, Check(n))
			}
		}
		for _, x := range []float64{math.NaN(), math.Inf(1), math.Inf(-1), math.Copysign(0, -1), 5e-324} {
			want := api.OK
			if kind < 1 || kind > 6 || x != 0 && (kind != 3 || x != 5e-324) {
				want = api.ErrNote
			}
			if e := Check(api.Note{Kind: kind, Num: x}); e != want {
				t.Errorf("kind %d with %v: %d", kind, x, e)
			}
		}
		// Empty lists that are not nil are nothing.
		n := api.Note{Kind: kind, List: []api.Note{}, Fields: []api.Field{}}
		if (Check(n) == api.OK) != (kind >= 1 && kind <= 6) {
			t.Errorf("kind %d with empty lists: %d", kind, Check(n))
		}
	}
	for _, kind := range []int{math.MaxInt, math.MinInt, 1 << 32, 1<<32 + 1, -1 << 8, 257, 0x101} {
		if e := Check(api.Note{Kind: kind}); e != api.ErrNote {
			t.Errorf("kind %d: %d", kind, e)
		}
	}
}

// What a text or a name may be.
func TestCheckUtf(t *testing.T) {
	for _, x := range []struct {
		text string
		ok   bool
	}{
		{"", true}, {"\x00", true}, {"\x7f", true}, {"\u0080", true}, {"\u07ff", true}, {"\u0800", true}, {"\ud7ff", true}, {"\ue000", true}, {"\ufffd", true}, {"\uffff", true}, {"\U00010000", true}, {"\U0010ffff", true}, {"a\ufffdb", true},
		{"\x80", false}, {"\xbf", false}, {"\xc0\x80", false}, {"\xc1\xbf", false}, {"\xc2", false}, {"\xc2a", false}, {"\xe0\x80\x80", false}, {"\xe0\x9f\xbf", false}, {"\xe2\x82", false}, {"\xe2\x82a", false}, {"\xed\xa0\x80", false}, {"\xed\xbf\xbf", false}, {"\xed\xa0\xbd\xed\xb8\x80", false}, {"\xf0\x80\x80\x80", false}, {"\xf0\x8f\xbf\xbf", false}, {"\xf0\x9f\x98", false}, {"\xf4\x90\x80\x80", false}, {"\xf5\x80\x80\x80", false}, {"\xf8\x88\x80\x80\x80", false}, {"\xfe", false}, {"\xff", false}, {"a\ufffd\xff", false}, {"\xef\xbf", false}, {"\xff\ufffd", false}, {"é\xa9", false},
	} {
		want := api.OK
		if !x.ok {
			want = api.ErrUtf
		}
		for _, around := range [][2]string{{"", ""}, {"a", ""}, {"", "a"}, {"é", "é"}} {
			text := around[0] + x.text + around[1]
			if e := Check(textNote(text)); e != want {
				t.Errorf("Check of the text %q: %d", text, e)
			}
			if e := Check(listNote(tableNote(fieldOf(text, nullNote())))); e != want {
				t.Errorf("Check of the name %q: %d", text, e)
			}
			holdPlain(t, textNote(text))
		}
	}
	everyWord([]string{"a", "\x7f", "\x80", "\xbf", "\xc1", "\xc2", "\xe0", "\xa0", "\x9f", "\xed", "\xf0", "\x90", "\x8f", "\xf4", "\xf5"}, 4, func(text string) {
		if (Check(textNote(text)) == api.OK) != plainUtf(text) {
			t.Fatalf("Check of the text %q", text)
		}
	})
}

// 64 storeys may be; a list or a table of depth 64 may not, other notes may.
func TestCheckNest(t *testing.T) {
	for _, tables := range []bool{false, true} {
		for n := 62; n <= 66; n++ {
			for _, inner := range []api.Note{nullNote(), textNote("x"), listNote(), tableNote(), {}, {Kind: api.NoteList, Bool: true}, {Kind: api.NoteTable, Num: 1}, listNote(api.Note{}), tableNote(fieldOf("\xff", nullNote()))} {
				holdPlain(t, storeys(n, tables, inner))
			}
		}
		for n, want := range map[int]api.Errno{62: api.OK, 63: api.OK, 64: api.ErrNest, 65: api.ErrNest} {
			for _, inner := range []api.Note{listNote(), tableNote()} {
				if e := Check(storeys(n, tables, inner)); e != want {
					t.Errorf("%d storeys and one: %d", n, e)
				}
			}
		}
		if e := Check(storeys(64, tables, nullNote())); e != api.OK {
			t.Errorf("null in 64 storeys: %d", e)
		}
		// Nesting is asked for ahead of what the note holds.
		if e := Check(storeys(64, tables, api.Note{Kind: api.NoteList, Text: "\xff"})); e != api.ErrNest {
			t.Errorf("a wrong list in 64 storeys: %d", e)
		}
	}
}

// A note may weigh 65536 with all that is in it: by its texts, its names, or how many there are. What stands behind is not looked at.
func TestCheckWeight(t *testing.T) {
	long := func(n int) string { return strings.Repeat("x", n) }
	bad := strings.Repeat("\xff", 65534)
	for i, x := range []struct {
		n    api.Note
		want api.Errno
	}{
		{listNote(append(many(65534, nullNote()), api.Note{})...), api.ErrNote},
		{listNote(append(many(65535, nullNote()), api.Note{})...), api.ErrLong},
		{listNote(textNote(long(65533)), api.Note{}), api.ErrNote},
		{listNote(textNote(long(65534)), api.Note{}), api.ErrLong},
		{textNote(bad + "\xff"), api.ErrUtf},
		{textNote(bad + "\xff\xff"), api.ErrLong},
		{tableNote(fieldOf(long(65533), api.Note{})), api.ErrNote},
		{tableNote(fieldOf(long(65534), api.Note{})), api.ErrLong},
		{tableNote(fieldOf(bad, nullNote())), api.ErrUtf},
		{tableNote(fieldOf(bad+"\xff", nullNote())), api.ErrLong},
		{tableNote(fieldOf("a", nullNote()), fieldOf("a", textNote(long(1<<20)))), api.ErrPair},
		{listNote(textNote(long(1<<20)), api.Note{}), api.ErrLong},
		{listNote(api.Note{}, textNote(long(1<<20))), api.ErrNote},
		// Only a text's own bytes weigh.
		{api.Note{Kind: api.NoteNull, Text: long(1 << 20)}, api.ErrNote},
		{api.Note{Kind: 7, Text: long(1 << 20)}, api.ErrNote},
		// Weight is asked for ahead of nesting, of the kind and of UTF-8.
		{listNote(textNote(long(65534)), listNote()), api.ErrLong},
		{listNote(textNote(long(65534)), api.Note{Kind: 9}), api.ErrLong},
		{tableNote(fieldOf(long(32766), textNote(long(32765))), fieldOf("\xff", nullNote())), api.ErrUtf},
		{tableNote(fieldOf(long(32766), textNote(long(32766))), fieldOf("\xff", nullNote())), api.ErrLong},
		{tableNote(fieldOf(long(32766), textNote(long(32765))), fieldOf("", api.Note{})), api.ErrNote},
		{tableNote(fieldOf(long(32766), textNote(long(32766))), fieldOf("", api.Note{})), api.ErrLong},
		{tableNote(fieldOf("a", textNote(long(65530))), fieldOf("a", nullNote())), api.ErrPair},
		{tableNote(fieldOf("a", textNote(long(65531))), fieldOf("a", nullNote())), api.ErrLong},
	} {
		if e, plain := Check(x.n), plainCheck(x.n); e != x.want || plain != x.want {
			t.Errorf("note %d: Check = %d, plainly %d; want %d", i, e, plain, x.want)
		}
		if s, e := Print(x.n); s != "" || e != x.want {
			t.Errorf("note %d: Print = %.20q, %d", i, s, e)
		}
	}
}

// The print may have 65536 bytes.
func TestCheckPrint(t *testing.T) {
	long := func(n int) string { return strings.Repeat("x", n) }
	controls := strings.Repeat("\x01", 10922) // 65532 bytes, and two quotes
	for i, x := range []struct {
		fits, not api.Note
	}{
		{textNote(long(65534)), textNote(long(65535))},
		{textNote(controls + "aa"), textNote(controls + "aaa")},
		{textNote(controls + "\n"), textNote(controls + "a\n")},
		{textNote(strings.Repeat("\"", 32767)), textNote(strings.Repeat("\\", 32768))},
		{textNote(strings.Repeat("é", 32767)), textNote(strings.Repeat("é", 32767) + "a")},
		{listNote(append(many(13106, nullNote()), numNote(10))...), listNote(append(many(13106, nullNote()), numNote(100), nullNote())...)},
		{listNote(append(many(32766, numNote(7)), numNote(12))...), listNote(append(many(32766, numNote(7)), numNote(123))...)},
		{listNote(textNote(long(65507)), numNote(-1.2345678901234567e-100)), listNote(textNote(long(65508)), numNote(-1.2345678901234567e-100))},
		{tableNote(fieldOf(long(65527), nullNote())), tableNote(fieldOf(long(65528), nullNote()))},
		{tableNote(fieldOf(controls[2:]+"aa", numNote(1)), fieldOf("", boolNote(true))), tableNote(fieldOf(controls[2:]+"aa", numNote(1)), fieldOf("", boolNote(false)))},
		{listNote(append(many(21844, listNote()), numNote(10))...), listNote(append(many(21844, tableNote()), numNote(100))...)},
	} {
		for _, n := range []api.Note{x.fits, x.not} {
			want := plainPrint(n, false)
			s, e := Print(n)
			if len(want) > 65536 {
				if s != "" || e != api.ErrLong || Check(n) != api.ErrLong {
					t.Errorf("%d: a print of %d bytes: %d bytes, %d", i, len(want), len(s), e)
				}
				continue
			}
			if c, f := Canon(n); s != want || e != api.OK || f != api.OK || len(c) != len(s) {
				t.Errorf("%d: a print of %d bytes: %d bytes, %d", i, len(want), len(s), e)
			}
		}
		if fits, not := len(plainPrint(x.fits, false)), len(plainPrint(x.not, false)); fits > 65536 || not <= 65536 {
			t.Errorf("%d: prints of %d and %d bytes", i, fits, not)
		}
	}
	// A fault in the last note is told ahead of a print that is too long.
	if e := Check(listNote(append(many(60000, nullNote()), api.Note{})...)); e != api.ErrNote {
		t.Errorf("%d", e)
	}
	if e := Check(listNote(many(60000, nullNote())...)); e != api.ErrLong {
		t.Errorf("%d", e)
	}
}

// Of several faults the first one in the order of the notes is told.
func TestCheckFirst(t *testing.T) {
	faults := []api.Note{
		{}, {Kind: api.NoteText, Text: "\xff"}, {Kind: api.NoteText, Text: "\xff", Bool: true}, tableNote(fieldOf("a", nullNote()), fieldOf("a", api.Note{})),
		tableNote(fieldOf("\xff", api.Note{})), tableNote(fieldOf("\xff", nullNote()), fieldOf("\xff", nullNote())), tableNote(fieldOf("a", api.Note{}), fieldOf("a", nullNote())),
		storeys(66, false, nullNote()), storeys(66, true, nullNote()), textNote(strings.Repeat("x", 65535)), {Kind: api.NoteTable, Text: "x", Fields: []api.Field{fieldOf("\xff", nullNote())}},
		{Kind: api.NoteList, Bool: true, List: []api.Note{textNote("\xff")}}, textNote(strings.Repeat("\xff", 70000)), nullNote(), listNote(), tableNote(), textNote("x"),
	}
	for _, a := range faults {
		for _, b := range faults {
			holdPlain(t, listNote(a, b))
			holdPlain(t, listNote(listNote(a), b))
			holdPlain(t, tableNote(fieldOf("a", a), fieldOf("b", b)))
			holdPlain(t, tableNote(fieldOf("a", a), fieldOf("a", b)))
			holdPlain(t, tableNote(fieldOf("a", listNote(a)), fieldOf("\xff", b)))
			holdPlain(t, tableNote(fieldOf("a", tableNote(fieldOf("a", a))), fieldOf("b", b)))
			holdPlain(t, storeys(63, true, listNote(a, b)))
		}
	}
}

func TestCheckSamples(t *testing.T) {
	r := sourceOf(6)
	for range 5000 {
		holdPlain(t, someNote(r, 4))
	}
}

// Lists that share one another, or are parts of themselves: every call ends.
func TestCheckShared(t *testing.T) {
	loop := make([]api.Note, 2)
	loop[0], loop[1] = listNote(loop...), nullNote()
	loop[0].List = loop
	ring := make([]api.Field, 1)
	ring[0] = fieldOf("a", api.Note{Kind: api.NoteTable, Fields: ring})
	broad := nullNote()
	for range 40 {
		broad = listNote(many(10, broad)...)
	}
	wide := listNote()
	for range 62 {
		wide = listNote(wide, wide)
	}
	heavy := make([]api.Note, 70000)
	for i := range heavy {
		heavy[i] = textNote("x")
	}
	heavy[0].Kind, heavy[0].Text, heavy[0].List = api.NoteList, "", heavy[1:]
	for i, x := range []struct {
		n    api.Note
		want api.Errno
	}{
		{listNote(loop...), api.ErrNest}, {api.Note{Kind: api.NoteTable, Fields: ring}, api.ErrNest}, {broad, api.ErrLong}, {wide, api.ErrLong}, {listNote(heavy...), api.ErrLong},
		{tableNote(fieldOf("a", broad), fieldOf("a", broad)), api.ErrLong},
	} {
		if e := Check(x.n); e != x.want {
			t.Errorf("%d: Check = %d", i, e)
		}
		if s, e := Print(x.n); s != "" || e != x.want {
			t.Errorf("%d: Print = %d", i, e)
		}
		if s, e := Canon(x.n); s != "" || e != x.want {
			t.Errorf("%d: Canon = %d", i, e)
		}
		if m, e := Find(x.n, "/0"); said(m) != said(api.Note{}) || e != x.want {
			t.Errorf("%d: Find = %d", i, e)
		}
		if Equal(x.n, x.n) {
			t.Errorf("%d: Equal", i)
		}
		Int(x.n)
	}
	// What is shared is a note like others, as long as it isn't too much.
	part := []api.Note{numNote(1), textNote("a")}
	holdPlain(t, listNote(listNote(part...), listNote(part...), listNote(part[:1]...)))
}
