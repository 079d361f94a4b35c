package note

import (
	"encoding/json"
	"fmt"
	"strings"
	"testing"
	"unicode/utf16"

	"graft/api"
)

// Every short text of signs, and of longer tokens.
func TestParseEvery(t *testing.T) {
	everyWord(strings.Split(`[ ] { } , : "a" "b" 1 null`, " "), 5, func(text string) { holdParse(t, text) })
	everyWord([]string{"[", "]", "{", "}", ",", ":", "\"", "\\", "a", "0", "1", "-", ".", "e", " ", "\x00", "\xc3"}, 4, func(text string) { holdParse(t, text) })
	everyWord([]string{"{\"a\":", "{", "}", "[", "]", ",", "\"a\"", "\"\\u0061\":", "\"b\":", "1", " "}, 5, func(text string) { holdParse(t, text) })
	everyWord([]string{"n", "u", "l", "t", "r", "e", " "}, 5, func(text string) { holdParse(t, text) })
	everyWord([]string{"0", "1", "-", "+", ".", "e", "E"}, 5, func(text string) {
		holdParse(t, text)
		holdParse(t, "["+text)
		holdParse(t, "["+text+"]")
	})
}

// Within a text: characters whole and broken, escapes of all kinds.
func TestParseTexts(t *testing.T) {
	everyWord([]string{"a", "\"", `\`, "u", "d8", "dC", "00", `\ud83d`, `\uDE00`, `\u0041`, "\xc3", "\xa9", "\x1f"}, 4, func(text string) {
		holdParse(t, `"`+text)
		holdParse(t, `"`+text+`"`)
		holdParse(t, `["`+text+`",1]`)
	})
	everyWord([]string{"\x7f", "\x80", "\xbf", "\xc0", "\xc1", "\xc2", "\xdf", "\xe0", "\xa0", "\x9f", "\xed", "\xef", "\xf0", "\x90", "\x8f", "\xf4", "\xf5", "\xff"}, 4, func(text string) {
		holdParse(t, `"`+text+`"`)
	})
	for c := range 256 {
		b := string([]byte{byte(c)})
		for _, form := range []string{`"%s"`, `"\%s"`, `"\%s1234"`, `"\u%s234"`, `"\u1%s34"`, `"\u12%s4"`, `"\u123%s"`, `"x%s`, `%s`, `[%s`, `[1%s`, `{%s`, `{"a"%s`, `{"a":%s`, `{"a":1%s`, `{"a":1,%s`, `[1,%s`, `1%s`, `-%s`, `1.%s`, `1.5%s`, `1e%s`, `1e+%s`, `1e5%s`, `0%s`, `-0%s`, `nul%s`, `null%s`, `tr%s`, `fals%s`, `"\ud83d%s"`, `"\ud83d\%s"`, `"\ud83d\u%se00"`, `"\ud83d\ude%s0"`} {
			text := strings.Replace(form, "%s", b, 1)
			holdParse(t, text)
			holdParse(t, text+"]")
		}
	}
}

// Every escape and what it stands for.
func TestParseEscapes(t *testing.T) {
	for text, want := range map[string]string{
		`"\"\\\/\b\f\n\r\t"`: "\"\\/\b\f\n\r\t", `"\u0000\u001f\u007F"`: "\x00\x1f\x7f", `"\u00e9\u00E9\u20Ac"`: "éé€", `"\ud7ff\uE000\uffff\uFFFD"`: "\ud7ff\ue000\uffff\ufffd",
		`"\uD800\uDC00\udbff\udfff\ud83d\uDE00"`: "\U00010000\U0010ffff\U0001f600", "\"\ufffd\U0010ffff\u2028\x7f\"": "\ufffd\U0010ffff\u2028\x7f", `""`: "", `"/"`: "/",
	} {
		n, e, at := Parse(text)
		if e != api.OK || at != 0 || said(n) != said(textNote(want)) {
			t.Errorf("Parse(%q) = %s, %d, %d", text, said(n), e, at)
		}
		n, e, at = Parse("{" + text + ":0}")
		if e != api.OK || at != 0 || said(n) != said(tableNote(fieldOf(want, numNote(0)))) {
			t.Errorf("Parse of the name %q = %s, %d, %d", text, said(n), e, at)
		}
	}
	for c := range rune(0x10000) {
		n, e, at := Parse(fmt.Sprintf(`"\u%04x"`, c))
		m, f, place := Parse(fmt.Sprintf(`"\u%04X"`, c))
		if said(n) != said(m) || e != f || at != place {
			t.Fatalf("%04x: the cases differ", c)
		}
		if alone := c >= 0xD800 && c < 0xE000; alone && (e != api.ErrUtf || at != 1) || !alone && (e != api.OK || n.Text != string(c)) {
			t.Fatalf("%04x: %s, %d, %d", c, said(n), e, at)
		}
	}
}

// Pairs of escapes at the edges of what may be an upper and a lower one.
func TestParsePairs(t *testing.T) {
	edges := []rune{0xD7FF, 0xD800, 0xDBFF, 0xDC00, 0xDFFF, 0xE000}
	for _, a := range edges {
		for _, b := range edges {
			text := fmt.Sprintf(`"\u%04x\u%04X"`, a, b)
			n, e, at := Parse(text)
			holdParse(t, text)
			if pair := utf16.DecodeRune(a, b); pair != 0xFFFD && (e != api.OK || n.Text != string(pair)) {
				t.Errorf("Parse(%s) = %s, %d, %d", text, said(n), e, at)
			}
			if a >= 0xDC00 && a <= 0xDFFF && (e != api.ErrUtf || at != 1) {
				t.Errorf("Parse(%s) = %s, %d, %d", text, said(n), e, at)
			}
		}
	}
}

// What is met, at the text's beginning, within lists and tables, and at the text's end.
func TestParsePlaces(t *testing.T) {
	number41 := strings.Repeat("1", 41)
	for _, x := range []struct {
		text string
		e    api.Errno
		at   int
	}{
		{"x", api.ErrJson, 0}, {"]", api.ErrJson, 0}, {":", api.ErrJson, 0}, {",", api.ErrJson, 0}, {"'a'", api.ErrJson, 0}, {"+1", api.ErrJson, 0}, {".5", api.ErrJson, 0}, {"\xff", api.ErrJson, 0}, {"\x00", api.ErrJson, 0}, {"\u00a01", api.ErrJson, 0}, {"\v1", api.ErrJson, 0}, {"\f1", api.ErrJson, 0},
		{"[x", api.ErrJson, 1}, {"[,", api.ErrJson, 1}, {"[1,]", api.ErrJson, 3}, {"[1}", api.ErrJson, 2}, {"{]", api.ErrJson, 1}, {"{\"a\":}", api.ErrJson, 5}, {"{\"a\",", api.ErrJson, 4}, {"{\"a\":1 \"b\"", api.ErrJson, 7}, {"{,", api.ErrJson, 1}, {"{\"a\":1,,", api.ErrJson, 7}, {"[01]", api.ErrJson, 2}, {"[1.x", api.ErrJson, 3}, {"[\"\n", api.ErrJson, 2}, {"[nulll]", api.ErrJson, 5}, {"[- 1]", api.ErrJson, 2}, {"[1. 5]", api.ErrJson, 3}, {"[1e 5]", api.ErrJson, 3}, {"[1e+ 5]", api.ErrJson, 4}, {"[1 .5]", api.ErrJson, 3}, {"[t rue]", api.ErrJson, 2}, {"[\"\\ n\"]", api.ErrJson, 3}, {"\"\\U0041\"", api.ErrJson, 2}, {"\"\\v\"", api.ErrJson, 2},
		{"1 x", api.ErrTail, 2}, {"[] []", api.ErrTail, 3}, {"{}}", api.ErrTail, 2}, {"\"a\"b", api.ErrTail, 3}, {"00", api.ErrTail, 1}, {"-01", api.ErrTail, 2}, {"truee", api.ErrTail, 4}, {"1\x00", api.ErrTail, 1}, {"1,", api.ErrTail, 1}, {"1e5e", api.ErrTail, 3}, {"1.5.", api.ErrTail, 3}, {"1-", api.ErrTail, 1}, {"1\n\xff", api.ErrTail, 2},
		{"", api.ErrShort, 0}, {"\t\n\r ", api.ErrShort, 4}, {"[", api.ErrShort, 1}, {"[ ", api.ErrShort, 2}, {"[1", api.ErrShort, 2}, {"[1 ", api.ErrShort, 3}, {"[1,", api.ErrShort, 3}, {"[1,\n", api.ErrShort, 4}, {"{", api.ErrShort, 1}, {"{ ", api.ErrShort, 2}, {"{\"", api.ErrShort, 2}, {"{\"a", api.ErrShort, 3}, {"{\"a\"", api.ErrShort, 4}, {"{\"a\":", api.ErrShort, 5}, {"{\"a\":1", api.ErrShort, 6}, {"{\"a\":1,", api.ErrShort, 7}, {"\"", api.ErrShort, 1}, {"\"\\", api.ErrShort, 2}, {"\"\\u", api.ErrShort, 3}, {"\"\\u004", api.ErrShort, 6}, {"\"\\u0041", api.ErrShort, 7}, {"t", api.ErrShort, 1}, {"fals", api.ErrShort, 4}, {"1e+", api.ErrShort, 3}, {"-", api.ErrShort, 1}, {"[1.", api.ErrShort, 3},
		{"\"\x80", api.ErrUtf, 1}, {"[\"a\xff\"", api.ErrUtf, 3}, {"{\"\xc0\x80\"", api.ErrUtf, 2}, {"\"\xe2\x82", api.ErrUtf, 1}, {"\"\xe2\x82\"", api.ErrUtf, 1}, {"\"\xf0\x9f\x98", api.ErrUtf, 1}, {"\"é\xe0\x9f\xbf", api.ErrUtf, 3}, {"\"\xed\xbf\xbf", api.ErrUtf, 1}, {"\"\xf5\x80\x80\x80", api.ErrUtf, 1}, {"\"\xf0\x8f\xbf\xbf", api.ErrUtf, 1}, {"\"\xfe", api.ErrUtf, 1},
		{`"\udc00`, api.ErrUtf, 1}, {`"a\uDFFF"`, api.ErrUtf, 2}, {`"\ud800`, api.ErrUtf, 1}, {`"\ud800"`, api.ErrUtf, 1}, {`"\ud800\`, api.ErrUtf, 1}, {`"\ud800\udc0`, api.ErrUtf, 1}, {`"\ud800\udc0x"`, api.ErrUtf, 1}, {`"\ud800\n"`, api.ErrUtf, 1}, {`"\ud800\ud800\udc00"`, api.ErrUtf, 1}, {`"\udc00\ud800"`, api.ErrUtf, 1}, {`["\ud800\udc00\udbff\ue000"`, api.ErrUtf, 14}, {`{"\ud83d \ude00"`, api.ErrUtf, 2}, {`"\ud800x\udc00`, api.ErrUtf, 1}, {`"\ud800\Udc00`, api.ErrUtf, 1}, {"\"\\udc00\xff", api.ErrUtf, 1}, {"\"\\ud800\x01", api.ErrUtf, 1},
		{`{"a":1,"a"`, api.ErrPair, 7}, {`{"a":1,"b":2,"\u0061"`, api.ErrPair, 13}, {`{"":1, "":2}`, api.ErrPair, 7}, {`[{"a":{"a":1},"a"x`, api.ErrPair, 14}, {`{"é":1,"\u00e9":2}`, api.ErrPair, 8}, {`{"a":1,"a`, api.ErrShort, 9}, {`{"a":1,"ab":2}`, api.OK, 0}, {`[{"a":1},{"a":1}]`, api.OK, 0}, {"{\"a\":1,\"a\xff\"", api.ErrUtf, 9},
		{number41, api.ErrNumber, 0}, {"[" + number41, api.ErrNumber, 1}, {"{\"a\": " + number41 + "x", api.ErrNumber, 6}, {number41 + "e9999", api.ErrNumber, 0}, {number41 + " x", api.ErrNumber, 0}, {"[1,-" + number41[1:], api.ErrNumber, 3}, {"0." + number41, api.ErrNumber, 0}, {number41[1:], api.OK, 0}, {"[" + number41[1:] + "]", api.OK, 0}, {number41 + ".", api.ErrShort, 42}, {number41 + ".x", api.ErrJson, 42}, {number41 + "e-", api.ErrShort, 43},
		{"1e309", api.ErrRange, 0}, {" -1e309x", api.ErrRange, 1}, {"[0,1e309", api.ErrRange, 3}, {"{\"a\":1e309}", api.ErrRange, 5}, {"1e309 1", api.ErrRange, 0}, {"1e-309", api.OK, 0}, {"[1e309.", api.ErrRange, 1}, {"[1e309e", api.ErrRange, 1}, {"[1e", api.ErrShort, 3},
	} {
		n, e, at := Parse(x.text)
		if e != x.e || at != x.at || e != api.OK && said(n) != said(api.Note{}) {
			t.Errorf("Parse(%q) = %s, %d, %d; want %d, %d", x.text, said(n), e, at, x.e, x.at)
		}
		holdParse(t, x.text)
	}
}

// Lists and tables in one another: 64 storeys may be, in whatever turn; the next bracket is told as it is read.
func TestParseNest(t *testing.T) {
	for n := 62; n <= 66; n++ {
		for _, form := range [][2]string{{"[", "]"}, {"{\"a\":", "}"}, {"[{\"a\":", "}]"}, {" [ 1 , ", " ] "}} {
			storeys := n
			if len(form[1]) == 2 {
				storeys = n / 2
			}
			for _, inner := range []string{"", "1", "[]", "{}", "[", "{", "\"[\"", "x"} {
				holdParse(t, strings.Repeat(form[0], storeys)+inner+strings.Repeat(form[1], storeys))
				holdParse(t, strings.Repeat(form[0], storeys)+inner)
			}
		}
	}
	for _, x := range []struct {
		text string
		e    api.Errno
		at   int
	}{
		{strings.Repeat("[", 63) + "{}" + strings.Repeat("]", 63), api.OK, 0}, {strings.Repeat("[", 64) + "{", api.ErrNest, 64}, {strings.Repeat("{\"a\":", 64) + "[", api.ErrNest, 320}, {strings.Repeat("[", 64) + "x[", api.ErrJson, 64},
		{strings.Repeat("[", 64) + "1" + strings.Repeat("]", 64), api.OK, 0}, {strings.Repeat("[", 65536), api.ErrNest, 64}, {"[" + strings.Repeat("[],", 1000) + "[]]", api.OK, 0},
	} {
		if n, e, at := Parse(x.text); e != x.e || at != x.at || (e == api.OK) != (n.Kind == api.NoteList) {
			t.Errorf("Parse(%.80q) = %d, %d", x.text, e, at)
		}
	}
}

// Blanks may stand ahead of and behind every note, name and sign, and nowhere else.
func TestParseBlanks(t *testing.T) {
	tokens := []string{"[", "{", `"a"`, ":", "-1.5e+3", ",", `"b c"`, ":", "null", "}", ",", "true", ",", "[", "]", ",", "{", "}", "]"}
	want, _, _ := Parse(strings.Join(tokens, ""))
	for _, blank := range []string{" ", "\t", "\n", "\r", " \t\n\r \n"} {
		n, e, at := Parse(blank + strings.Join(tokens, blank) + blank)
		if e != api.OK || at != 0 || said(n) != said(want) {
			t.Errorf("blank %q: %s, %d, %d", blank, said(n), e, at)
		}
		text := strings.Join(tokens, "")
		for i := range len(text) + 1 {
			holdParse(t, text[:i]+blank+text[i:])
		}
	}
	for _, no := range []string{"\v", "\f", "\x00", "\x7f", "\u00a0", "\u2028", "\ufeff", "\x85", "/**/", "#"} {
		for i := range len(tokens) + 1 {
			holdParse(t, strings.Join(tokens[:i], "")+no+strings.Join(tokens[i:], ""))
		}
	}
}

func TestParseLength(t *testing.T) {
	for _, form := range []struct{ head, one, tail string }{
		{"", " ", "1"}, {"1", "\n", ""}, {"\"", "a", "\""}, {"{\"", "a", "\":1}"}, {"[1", ",1", "]"}, {"[", "[],", "1]"}, {"\"", "\\n", "\""},
	} {
		room := 65536 - len(form.head) - len(form.tail)
		whole := form.head + strings.Repeat(form.one, room/len(form.one)) + form.tail
		whole += strings.Repeat(" ", 65536-len(whole))
		if n, e, at := Parse(whole); e != api.OK || at != 0 || n.Kind == 0 {
			t.Errorf("Parse of 65536 bytes %.20q: %d, %d", whole, e, at)
		}
		for _, tail := range []string{" ", "x", strings.Repeat("x", 1<<20)} {
			if n, e, at := Parse(whole + tail); e != api.ErrLong || at != 0 || n.Kind != 0 {
				t.Errorf("Parse of %d bytes %.20q: %d, %d", len(whole+tail), whole, e, at)
			}
		}
	}
	// The length is asked for ahead of all else.
	if _, e, at := Parse(strings.Repeat("x", 65537)); e != api.ErrLong || at != 0 {
		t.Errorf("%d, %d", e, at)
	}
	if _, e, at := Parse(strings.Repeat("x", 65536)); e != api.ErrJson || at != 0 {
		t.Errorf("%d, %d", e, at)
	}
	if _, e, at := Parse(strings.Repeat(" ", 65536)); e != api.ErrShort || at != 65536 {
		t.Errorf("%d, %d", e, at)
	}
}

var samples = []string{
	` { "a/b" : [ 7 , { "~" : 8 } , "\ud83d\uDE00\n\u0041\/" ] , "" : null , "x" : [ true , false , [ ] , { } ] } `,
	`[0,-0,1.5,-2.25e-3,1E5,12345678901234567890,0.1e+1,5e-324]`,
	"{\"é\":\"\u20ac\U0001f600\",\"\\u00e8\":{\"a\":{\"a\":{\"a\":\"\\\\\\\"\"}}}}",
	"[\"\\ud800\\udc00\",\"\\udbff\\udfff\",\"\x7f\",\"\uffff\"]",
}

// Texts cut short, with a byte turned, taken away or put in.
func TestParseTurned(t *testing.T) {
	bytes := []byte("\x00\x09\x0a\x1f \"+,-./019:AEFG[\\]befnrtux{}\x7f\x80\xbf\xc3\xe2\xed\xf0\xff")
	for _, text := range samples {
		holdParse(t, text)
		for i := range len(text) {
			holdParse(t, text[:i])
			holdParse(t, text[:i]+text[i+1:])
			for _, b := range bytes {
				holdParse(t, text[:i]+string([]byte{b})+text[i+1:])
				holdParse(t, text[:i]+string([]byte{b})+text[i:])
			}
		}
	}
}

// Where nothing but the grammar is asked for, the library's reader takes the same texts.
func TestParseLibrary(t *testing.T) {
	r := sourceOf(5)
	pieces := strings.Split(`[ ] { } , : "a" "b" "c" 1 -2 0.5 1e3 null true false [] {} "a":1 "b":[ 01 - tru "`, " ")
	for range 30000 {
		text := ""
		for range 1 + r.IntN(9) {
			text += pieces[r.IntN(len(pieces))]
		}
		_, e, _ := Parse(text)
		if e != api.ErrPair && e != api.ErrRange && json.Valid([]byte(text)) != (e == api.OK) {
			t.Fatalf("Parse(%q): %d", text, e)
		}
		holdParse(t, text)
	}
}

// Fields and lists keep their order.
func TestParseOrder(t *testing.T) {
	n, e, _ := Parse(`{"b":[3,1,2],"a":{"y":1,"x":2},"c":3}`)
	want := tableNote(fieldOf("b", listNote(numNote(3), numNote(1), numNote(2))), fieldOf("a", tableNote(fieldOf("y", numNote(1)), fieldOf("x", numNote(2)))), fieldOf("c", numNote(3)))
	if e != api.OK || said(n) != said(want) {
		t.Errorf("%s, %d", said(n), e)
	}
}
