package note

import (
	"encoding/json"
	"fmt"
	"math"
	"math/rand/v2"
	"regexp"
	"slices"
	"strconv"
	"strings"
	"testing"
	"unicode/utf16"

	"graft/api"
)

// Short forms of notes.

func nullNote() api.Note { return api.Note{Kind: api.NoteNull} }

func boolNote(b bool) api.Note { return api.Note{Kind: api.NoteBool, Bool: b} }

func numNote(x float64) api.Note { return api.Note{Kind: api.NoteNumber, Num: x} }

func textNote(s string) api.Note { return api.Note{Kind: api.NoteText, Text: s} }

func listNote(l ...api.Note) api.Note { return api.Note{Kind: api.NoteList, List: l} }

func tableNote(l ...api.Field) api.Note { return api.Note{Kind: api.NoteTable, Fields: l} }

func fieldOf(name string, n api.Note) api.Field { return api.Field{Name: name, Note: n} }

// said is all that a note says, nil and empty lists alike; -0 is 0.
func said(n api.Note) string {
	out := fmt.Sprintf("%d %v %x %q [", n.Kind, n.Bool, math.Float64bits(n.Num+0), n.Text)
	for _, x := range n.List {
		out += said(x) + ","
	}
	out += "]{"
	for _, f := range n.Fields {
		out += strconv.Quote(f.Name) + ":" + said(f.Note) + ","
	}
	return out + "}"
}

// plainChar is how many bytes the character has that a text begins with, as 9.4 says; 0 if none begins there.
func plainChar(text string) int {
	first := text[0]
	size, least, c := 0, 0, 0
	switch {
	case first < 128:
		return 1
	case first >= 0xC2 && first < 0xE0:
		size, least, c = 2, 0x80, int(first-0xC0)
	case first >= 0xE0 && first < 0xF0:
		size, least, c = 3, 0x800, int(first-0xE0)
	case first >= 0xF0 && first <= 0xF4:
		size, least, c = 4, 0x10000, int(first-0xF0)
	}
	if size == 0 || len(text) < size {
		return 0
	}
	for _, b := range []byte(text[1:size]) {
		if b < 0x80 || b > 0xBF {
			return 0
		}
		c = c*64 + int(b-0x80)
	}
	if c < least || c > 0x10FFFF || c >= 0xD800 && c <= 0xDFFF {
		return 0
	}
	return size
}

func plainUtf(text string) bool {
	for text != "" {
		n := plainChar(text)
		if n == 0 {
			return false
		}
		text = text[n:]
	}
	return true
}

var numbers = regexp.MustCompile(`^-?(0|[1-9][0-9]*)(\.[0-9]+)?([eE][+-]?[0-9]+)?$`)

// plainSpan is the longest beginning of a text that can become a number by digits, and whether it is one.
func plainSpan(text string) (int, bool) {
	n := 1
	for n < len(text) && (numbers.MatchString(text[:n+1]) || numbers.MatchString(text[:n+1]+"0")) {
		n++
	}
	return n, numbers.MatchString(text[:n])
}

// plainNumber reads a number by the library.
func plainNumber(text string) (float64, api.Errno) {
	if len(text) > 40 || !numbers.MatchString(text) {
		return 0, api.ErrNumber
	}
	x, err := strconv.ParseFloat(text, 64)
	if err != nil {
		return 0, api.ErrRange
	}
	return x + 0, api.OK
}

// plainShow prints a number by the library's digits.
func plainShow(x float64) string {
	if x == 0 {
		return "0"
	}
	if x < 0 {
		return "-" + plainShow(-x)
	}
	digits, power, _ := strings.Cut(strconv.FormatFloat(x, 'e', -1, 64), "e")
	digits = strings.Replace(digits, ".", "", 1)
	n, _ := strconv.Atoi(power)
	n++
	k := len(digits)
	if k <= n && n <= 21 {
		return digits + strings.Repeat("0", n-k)
	}
	if 0 < n && n <= 21 {
		return digits[:n] + "." + digits[n:]
	}
	if -6 < n && n <= 0 {
		return "0." + strings.Repeat("0", -n) + digits
	}
	if k > 1 {
		digits = digits[:1] + "." + digits[1:]
	}
	return fmt.Sprintf("%se%+d", digits, n-1)
}

// plainText goes over a note's text token by token: what is open, and what may come.
type plainText struct {
	text  string
	at    int
	open  string
	names [][]string
	want  string // the beginnings of what may come: v a note, q a name, . the end, and signs
}

// plainFault is what is met first in a text.
func plainFault(text string) (api.Errno, int) {
	if len(text) > 65536 {
		return api.ErrLong, 0
	}
	p := plainText{text: text, want: "v"}
	for p.at < len(text) {
		if strings.IndexByte(" \t\n\r", text[p.at]) >= 0 {
			p.at++
			continue
		}
		if e, at := p.token(); e != api.OK {
			return e, at
		}
	}
	if p.want != "." {
		return api.ErrShort, len(text)
	}
	return api.OK, 0
}

func (p *plainText) may(what string) bool { return strings.Contains(p.want, what) }

// token takes one token in.
func (p *plainText) token() (api.Errno, int) {
	c, at := p.text[p.at], p.at
	switch {
	case p.may("."):
		return api.ErrTail, at
	case p.may("v") && strings.IndexByte("[{", c) >= 0:
		if len(p.open) == 64 {
			return api.ErrNest, at
		}
		p.at++
		p.open += string(c)
		p.names = append(p.names, nil)
		p.want = map[byte]string{'[': "v]", '{': "q}"}[c]
		return api.OK, 0
	case strings.IndexByte("]}", c) >= 0 && p.may(string(c)):
		p.at++
		p.open, p.names = p.open[:len(p.open)-1], p.names[:len(p.names)-1]
		p.behind()
		return api.OK, 0
	case strings.IndexByte(",:", c) >= 0 && p.may(string(c)):
		p.at++
		p.want = "v"
		if c == ',' && strings.HasSuffix(p.open, "{") {
			p.want = "q"
		}
		return api.OK, 0
	case c == '"' && (p.may("v") || p.may("q")):
		return p.string()
	case p.may("v") && strings.IndexByte("-0123456789", c) >= 0:
		return p.number()
	case p.may("v") && strings.IndexByte("ntf", c) >= 0:
		return p.word(map[byte]string{'n': "null", 't': "true", 'f': "false"}[c])
	}
	return api.ErrJson, at
}

// behind is what may come behind a note.
func (p *plainText) behind() {
	switch {
	case p.open == "":
		p.want = "."
	case strings.HasSuffix(p.open, "["):
		p.want = ",]"
	default:
		p.want = ",}"
	}
}

// stuck is the fault where a token can't go on.
func (p *plainText) stuck(at int) (api.Errno, int) {
	if at == len(p.text) {
		return api.ErrShort, at
	}
	return api.ErrJson, at
}

func (p *plainText) word(word string) (api.Errno, int) {
	for i := range len(word) {
		if p.at+i == len(p.text) || p.text[p.at+i] != word[i] {
			return p.stuck(p.at + i)
		}
	}
	p.at += len(word)
	p.behind()
	return api.OK, 0
}

func (p *plainText) number() (api.Errno, int) {
	n, ended := plainSpan(p.text[p.at:])
	if !ended {
		return p.stuck(p.at + n)
	}
	if _, e := plainNumber(p.text[p.at : p.at+n]); e != api.OK {
		return e, p.at
	}
	p.at += n
	p.behind()
	return api.OK, 0
}

var escapesOfCode = regexp.MustCompile(`^\\u[0-9a-fA-F]{4}`)

// plainCode is the code unit of an escape \u that a text begins with, -1 if none does.
func plainCode(text string) int {
	code := escapesOfCode.FindString(text)
	if code == "" {
		return -1
	}
	n, _ := strconv.ParseUint(code[2:], 16, 16)
	return int(n)
}

func (p *plainText) string() (api.Errno, int) {
	from := p.at
	for at := p.at + 1; at < len(p.text); {
		c, rest := p.text[at], p.text[at:]
		switch {
		case c == '"':
			p.at = at + 1
			return p.named(from)
		case c < 32:
			return api.ErrJson, at
		case c != '\\':
			n := plainChar(rest)
			if n == 0 {
				return api.ErrUtf, at
			}
			at += n
		case len(rest) == 1:
			return api.ErrShort, len(p.text)
		case rest[1] != 'u' && strings.IndexByte(`"\/bfnrt`, rest[1]) < 0:
			return api.ErrJson, at + 1
		case rest[1] != 'u':
			at += 2
		default:
			n, e, place := p.code(at)
			if e != api.OK {
				return e, place
			}
			at += n
		}
	}
	return api.ErrShort, len(p.text)
}

// code is how many bytes the escape \u there has, with the one behind it if they are a pair.
func (p *plainText) code(at int) (int, api.Errno, int) {
	rest := p.text[at:]
	unit := plainCode(rest)
	switch {
	case unit < 0:
		for i := 2; ; i++ {
			if i == len(rest) || strings.IndexByte("0123456789abcdefABCDEF", rest[i]) < 0 {
				e, place := p.stuck(at + i)
				return 0, e, place
			}
		}
	case unit < 0xD800 || unit > 0xDFFF:
		return 6, api.OK, 0
	case unit < 0xDC00:
		if low := plainCode(rest[6:]); low >= 0xDC00 && low <= 0xDFFF {
			return 12, api.OK, 0
		}
	}
	return 0, api.ErrUtf, at
}

// named takes in a string that has been read: a note, or a name.
func (p *plainText) named(from int) (api.Errno, int) {
	if p.may("v") {
		p.behind()
		return api.OK, 0
	}
	var name string
	if err := json.Unmarshal([]byte(p.text[from:p.at]), &name); err != nil {
		panic(err)
	}
	last := len(p.names) - 1
	if slices.Contains(p.names[last], name) {
		return api.ErrPair, from
	}
	p.names[last] = append(p.names[last], name)
	p.want = ":"
	return api.OK, 0
}

// plainParse reads a text by the plain reading of the chapter, and its note by the library.
func plainParse(text string) (api.Note, api.Errno, int) {
	if e, at := plainFault(text); e != api.OK {
		return api.Note{}, e, at
	}
	d := json.NewDecoder(strings.NewReader(text))
	d.UseNumber()
	return plainTokens(d, next(d)), api.OK, 0
}

func next(d *json.Decoder) json.Token {
	t, err := d.Token()
	if err != nil {
		panic(err)
	}
	return t
}

// plainTokens is the note that begins with a token.
func plainTokens(d *json.Decoder, t json.Token) api.Note {
	switch x := t.(type) {
	case bool:
		return boolNote(x)
	case json.Number:
		n, _ := plainNumber(string(x))
		return numNote(n)
	case string:
		return textNote(x)
	case json.Delim:
		out := api.Note{Kind: api.NoteList}
		if x == '{' {
			out.Kind = api.NoteTable
		}
		for d.More() {
			if x == '[' {
				out.List = append(out.List, plainTokens(d, next(d)))
				continue
			}
			name := next(d).(string)
			out.Fields = append(out.Fields, fieldOf(name, plainTokens(d, next(d))))
		}
		next(d)
		return out
	}
	return nullNote()
}

// plainPrint is a note's text, with its tables' fields put in order or not.
func plainPrint(n api.Note, sorted bool) string {
	switch n.Kind {
	case api.NoteBool:
		return strconv.FormatBool(n.Bool)
	case api.NoteNumber:
		return plainShow(n.Num)
	case api.NoteText:
		return plainQuote(n.Text)
	case api.NoteList:
		var parts []string
		for _, x := range n.List {
			parts = append(parts, plainPrint(x, sorted))
		}
		return "[" + strings.Join(parts, ",") + "]"
	case api.NoteTable:
		fields := slices.Clone(n.Fields)
		if sorted {
			slices.SortFunc(fields, func(a, b api.Field) int {
				return slices.Compare(utf16.Encode([]rune(a.Name)), utf16.Encode([]rune(b.Name)))
			})
		}
		var parts []string
		for _, f := range fields {
			parts = append(parts, plainQuote(f.Name)+":"+plainPrint(f.Note, sorted))
		}
		return "{" + strings.Join(parts, ",") + "}"
	}
	return "null"
}

func plainQuote(text string) string {
	out := []byte{'"'}
	for _, c := range []byte(text) {
		if i := strings.IndexByte("\"\\\b\t\n\f\r", c); i >= 0 {
			out = append(out, '\\', `"\btnfr`[i])
		} else if c < 32 {
			out = fmt.Appendf(out, `\u%04x`, c)
		} else {
			out = append(out, c)
		}
	}
	return string(append(out, '"'))
}

// met is what is looked at, one after the other: a note with its depth, or a name.
type met struct {
	note   *api.Note
	depth  int
	name   string
	before []string
}

// plainOrder is the notes and names of a note in their order; no more than so many.
func plainOrder(n *api.Note, depth int, out []met) []met {
	if len(out) > 66000 || depth > 66 {
		return out
	}
	out = append(out, met{note: n, depth: depth})
	if n.Kind == api.NoteList {
		for i := range n.List {
			out = plainOrder(&n.List[i], depth+1, out)
		}
	}
	if n.Kind == api.NoteTable {
		var before []string
		for i := range n.Fields {
			out = append(out, met{name: n.Fields[i].Name, before: before})
			out = plainOrder(&n.Fields[i].Note, depth+1, out)
			before = append(before, n.Fields[i].Name)
		}
	}
	return out
}

// plainCheck asks of each note and name in order what the chapter asks.
func plainCheck(n api.Note) api.Errno {
	weight := 0
	for _, m := range plainOrder(&n, 0, nil) {
		var e api.Errno
		if m.note == nil {
			weight += 1 + len(m.name)
			e = plainNameFault(m)
		} else {
			weight++
			if m.note.Kind == api.NoteText {
				weight += len(m.note.Text)
			}
			e = plainNoteFault(*m.note, m.depth)
		}
		if weight > 65536 {
			return api.ErrLong
		}
		if e != api.OK {
			return e
		}
	}
	if len(plainPrint(n, false)) > 65536 {
		return api.ErrLong
	}
	return api.OK
}

func plainNameFault(m met) api.Errno {
	if !plainUtf(m.name) {
		return api.ErrUtf
	}
	if slices.Contains(m.before, m.name) {
		return api.ErrPair
	}
	return api.OK
}

func plainNoteFault(n api.Note, depth int) api.Errno {
	if depth >= 64 && (n.Kind == 5 || n.Kind == 6) {
		return api.ErrNest
	}
	unused := n.Bool && n.Kind != 2 || n.Num != 0 && n.Kind != 3 || n.Text != "" && n.Kind != 4 ||
		len(n.List) > 0 && n.Kind != 5 || len(n.Fields) > 0 && n.Kind != 6
	if n.Kind < 1 || n.Kind > 6 || unused || math.IsNaN(n.Num) || math.IsInf(n.Num, 0) {
		return api.ErrNote
	}
	if !plainUtf(n.Text) {
		return api.ErrUtf
	}
	return api.OK
}

// plainEqual compares notes that may be.
func plainEqual(a, b api.Note) bool {
	if a.Kind != b.Kind || a.Bool != b.Bool || a.Num != b.Num || a.Text != b.Text || len(a.List) != len(b.List) || len(a.Fields) != len(b.Fields) {
		return false
	}
	for i := range a.List {
		if !plainEqual(a.List[i], b.List[i]) {
			return false
		}
	}
	for _, f := range a.Fields {
		i := slices.IndexFunc(b.Fields, func(g api.Field) bool { return g.Name == f.Name })
		if i < 0 || !plainEqual(f.Note, b.Fields[i].Note) {
			return false
		}
	}
	return true
}

// plainFind goes down a way in a note that may be.
func plainFind(n api.Note, way string) (api.Note, api.Errno) {
	if !regexp.MustCompile(`(?s)^(/([^~/]|~0|~1)*)*$`).MatchString(way) {
		return api.Note{}, api.ErrPath
	}
	for _, part := range strings.Split(way, "/")[1:] {
		name := ""
		for i := 0; i < len(part); i++ {
			if part[i] != '~' {
				name += part[i : i+1]
				continue
			}
			i++
			name += map[byte]string{'0': "~", '1': "/"}[part[i]]
		}
		found := false
		for i, x := range n.List {
			if strconv.Itoa(i) == name {
				n, found = x, true
				break
			}
		}
		for _, f := range n.Fields {
			if !found && f.Name == name {
				n, found = f.Note, true
			}
		}
		if !found {
			return api.Note{}, api.ErrNone
		}
	}
	return n, api.OK
}

func sourceOf(n uint64) *rand.Rand { return rand.New(rand.NewPCG(n, 9)) }

var someNames = []string{"", "a", "ab", "b", "a/b", "~", "~1", "0", "1", "01", "é", "\ufb33", "\U0001f600", "\U0001f600a", "\uffff", "\ue000", "\n", "\"", "\x00"}

var someNumbers = []float64{0, 1, -1, 0.1, 1e21, 1e-7, 5e-324, math.MaxFloat64, 1.0 / 3, -2.5, 9007199254740991, 100, 123456789012345680000}

// someNote is a note that may be, of a few storeys.
func someNote(r *rand.Rand, storeys int) api.Note {
	kind := 1 + r.IntN(6)
	if storeys == 0 {
		kind = 1 + r.IntN(4)
	}
	n := api.Note{Kind: kind}
	switch kind {
	case api.NoteBool:
		n.Bool = r.IntN(2) == 0
	case api.NoteNumber:
		n.Num = someNumbers[r.IntN(len(someNumbers))]
	case api.NoteText:
		n.Text = someNames[r.IntN(len(someNames))] + someNames[r.IntN(len(someNames))]
	case api.NoteList:
		for range r.IntN(4) {
			n.List = append(n.List, someNote(r, storeys-1))
		}
	case api.NoteTable:
		for _, i := range r.Perm(len(someNames))[:r.IntN(4)] {
			n.Fields = append(n.Fields, fieldOf(someNames[i], someNote(r, storeys-1)))
		}
	}
	return n
}

// holdParse holds Parse against the plain reading.
func holdParse(t *testing.T, text string) {
	t.Helper()
	n, e, at := Parse(text)
	want, we, wat := plainParse(text)
	if e != we || at != wat || said(n) != said(want) {
		t.Fatalf("Parse(%.200q) = %.200s, %d, %d; want %.200s, %d, %d", text, said(n), e, at, said(want), we, wat)
	}
}

// holdPlain holds what is said of one note against the plain readings.
func holdPlain(t *testing.T, n api.Note) {
	t.Helper()
	want := plainCheck(n)
	if e := Check(n); e != want {
		t.Fatalf("Check(%.200s) = %d, want %d", said(n), e, want)
	}
	print, canon := "", ""
	if want == api.OK {
		print, canon = plainPrint(n, false), plainPrint(n, true)
	}
	if s, e := Print(n); e != want || s != print {
		t.Fatalf("Print(%.200s) = %.200q, %d; want %.200q, %d", said(n), s, e, print, want)
	}
	if s, e := Canon(n); e != want || s != canon {
		t.Fatalf("Canon(%.200s) = %.200q, %d; want %.200q, %d", said(n), s, e, canon, want)
	}
}
