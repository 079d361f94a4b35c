package label

import (
	"math/rand/v2"
	"slices"
	"strings"
	"testing"

	"graft/api"
	"graft/digest"
)

const (
	digits = "0123456789abcdfghijklmnpqrsvwxyz"
	zeros  = "00000000000000000000000000000000"
)

// plainBase is ParseBase by the words of P2.3; of the label the two texts of which it is made.
func plainBase(text string) (hash, name string, e api.Errno, at int) {
	if len(text) > 244 {
		return "", "", api.ErrLong, 0
	}
	for i := range 32 {
		if i >= len(text) {
			return "", "", api.ErrShort, len(text)
		}
		if strings.IndexByte(digits, text[i]) < 0 {
			return "", "", api.ErrHash, i
		}
	}
	if len(text) == 32 {
		return "", "", api.ErrShort, 32
	}
	if text[32] != '-' {
		return "", "", api.ErrDash, 32
	}
	if e, at := plainCheck(text[33:]); e != api.OK {
		return "", "", e, 33 + at
	}
	return text[:32], text[33:], api.OK, 0
}

// plainParse is Parse by the words of P2.4.
func plainParse(text string) (hash, name string, e api.Errno, at int) {
	if len(text) > 257 {
		return "", "", api.ErrLong, 0
	}
	for i := range 13 {
		if i >= len(text) {
			return "", "", api.ErrShort, len(text)
		}
		if text[i] != "/graft/store/"[i] {
			return "", "", api.ErrPrefix, i
		}
	}
	hash, name, e, at = plainBase(text[13:])
	if e != api.OK {
		at += 13
	}
	return hash, name, e, at
}

// plainSplit is Split by the words of P2.6.
func plainSplit(text string) (hash, name string, steps []string, e api.Errno, at int) {
	if len(text) > 16384 {
		return "", "", nil, api.ErrLong, 0
	}
	end := 13
	for end < len(text) && text[end] != '/' {
		end++
	}
	end = min(end, len(text))
	hash, name, e, at = plainParse(text[:end])
	if e != api.OK {
		return "", "", nil, e, at
	}
	if end == len(text) {
		return hash, name, nil, api.OK, 0
	}
	place := end + 1
	for _, step := range strings.Split(text[end+1:], "/") {
		if len(step) == 0 || len(step) > 255 || strings.Contains(step, "\x00") || step == "." || step == ".." {
			return "", "", nil, api.ErrEntry, place
		}
		steps = append(steps, step)
		place += len(step) + 1
	}
	return hash, name, steps, api.OK, 0
}

// holdBase holds ParseBase of a text against the plain one.
func holdBase(t *testing.T, text string) {
	t.Helper()
	holdRead(t, text, "ParseBase", ParseBase, plainBase, Base)
}

// holdParse holds Parse of a text against the plain one.
func holdParse(t *testing.T, text string) {
	t.Helper()
	holdRead(t, text, "Parse", Parse, plainParse, Print)
}

// holdRead holds what a reader says of a text against the plain one, and what it takes against the printer.
func holdRead(t *testing.T, text, what string, read func(string) (api.Label, api.Errno, int),
	plain func(string) (string, string, api.Errno, int), write func(api.Label) (string, api.Errno)) {
	t.Helper()
	l, e, at := read(text)
	hash, name, we, wp := plain(text)
	if e != we || at != wp {
		t.Fatalf("%s of %.60q = %d, %d, want %d, %d", what, text, e, at, we, wp)
	}
	if e != api.OK {
		if l != (api.Label{}) {
			t.Fatalf("%s of %.60q answers %v beside an error", what, text, l)
		}
		return
	}
	if digest.Base32(l.Hash[:]) != hash || l.Name != name {
		t.Fatalf("%s of %.60q = %v", what, text, l)
	}
	if s, e := write(l); s != text || e != api.OK {
		t.Fatalf("%s of %.60q, and back = %q, %d", what, text, s, e)
	}
}

// holdSplit holds Split of a text against the plain one.
func holdSplit(t *testing.T, text string) {
	t.Helper()
	l, steps, e, at := Split(text)
	hash, name, want, we, wp := plainSplit(text)
	if e != we || at != wp || !slices.Equal(steps, want) {
		t.Fatalf("Split(%.80q) = %q, %d, %d, want %q, %d, %d", text, steps, e, at, want, we, wp)
	}
	if e != api.OK && l != (api.Label{}) {
		t.Fatalf("Split(%.80q) answers %v beside an error", text, l)
	}
	if e == api.OK && (digest.Base32(l.Hash[:]) != hash || l.Name != name) {
		t.Fatalf("Split(%.80q) = %v", text, l)
	}
}

// someLabel is a label that chance has made.
func someLabel(r *rand.Rand) api.Label {
	var l api.Label
	for i := range l.Hash {
		l.Hash[i] = byte(r.Uint32())
	}
	name := []byte{'a'}
	for range r.IntN(12) {
		name = append(name, nameBytes[r.IntN(len(nameBytes))])
	}
	l.Name = string(name)
	return l
}

// P2.2, example 2.
func TestPrint(t *testing.T) {
	all := api.Label{Name: "hello"}
	// The digits from the last to the first are the numbers 31 to 0, five bits each from byte 0 on.
	for i := range 32 {
		for bit := range 5 {
			if (31-i)>>bit&1 == 1 {
				at := 5*i + bit
				all.Hash[at/8] |= 1 << (at % 8)
			}
		}
	}
	long := strings.Repeat("n", 211)
	for _, c := range []struct {
		l    api.Label
		base string
		e    api.Errno
	}{
		{api.Label{Name: "x"}, zeros + "-x", api.OK},
		{all, "0123456789abcdfghijklmnpqrsvwxyz-hello", api.OK},
		{api.Label{Hash: api.Hash{0: 1}, Name: "?"}, zeros[1:] + "1-?", api.OK},
		{api.Label{Hash: api.Hash{19: 0xf8}, Name: "="}, "z" + zeros[1:] + "-=", api.OK},
		{api.Label{Name: long}, zeros + "-" + long, api.OK},
		{api.Label{Name: long + "n"}, "", api.ErrLong},
		{api.Label{}, "", api.ErrName},
		{api.Label{Name: ".x"}, "", api.ErrName},
		{api.Label{Name: "a b"}, "", api.ErrName},
		{api.Label{Hash: all.Hash, Name: "ä"}, "", api.ErrName},
	} {
		if s, e := Base(c.l); s != c.base || e != c.e {
			t.Errorf("Base(%v) = %q, %d, want %q, %d", c.l, s, e, c.base, c.e)
		}
		want := ""
		if c.e == api.OK {
			want = "/graft/store/" + c.base
		}
		if s, e := Print(c.l); s != want || e != c.e {
			t.Errorf("Print(%v) = %q, %d, want %q, %d", c.l, s, e, want, c.e)
		}
	}
}

// P2.3, P2.4, examples 3 and 4.
func TestParseExamples(t *testing.T) {
	long := strings.Repeat("a", 211)
	for _, c := range []struct {
		text string
		e    api.Errno
		at   int
	}{
		{zeros[1:], api.ErrShort, 31},
		{"e" + strings.Repeat("0", 40), api.ErrHash, 0},
		{zeros, api.ErrShort, 32},
		{zeros + "+", api.ErrDash, 32},
		{zeros + "-", api.ErrName, 33},
		{zeros + "-.", api.ErrName, 33},
		{zeros + "-a\x00", api.ErrName, 34},
		{"", api.ErrShort, 0},
		{"0o", api.ErrHash, 1},
		{zeros[1:] + "A-x", api.ErrHash, 31},
		{"-", api.ErrHash, 0},
		{zeros + "-" + long, api.OK, 0},
		{zeros + "-" + long + "a", api.ErrLong, 0},
		{strings.Repeat("e", 244), api.ErrHash, 0},
		{strings.Repeat("e", 245), api.ErrLong, 0},
	} {
		if _, e, at := ParseBase(c.text); e != c.e || at != c.at {
			t.Errorf("ParseBase(%.60q) = %d, %d, want %d, %d", c.text, e, at, c.e, c.at)
		}
		holdBase(t, c.text)
		holdParse(t, "/graft/store/"+c.text)
	}
	for _, c := range []struct {
		text string
		e    api.Errno
		at   int
	}{
		{"/graft/store", api.ErrShort, 12},
		{"/graft/stone/..", api.ErrPrefix, 10},
		{"/graft/store/", api.ErrShort, 13},
		{"", api.ErrShort, 0},
		{"/Graft", api.ErrPrefix, 1},
		{"/graft/store/" + zeros, api.ErrShort, 45},
		{"/graft/store/" + zeros + "-", api.ErrName, 46},
		{"/graft/store/" + zeros + "-" + long, api.OK, 0},
		{"/graft/store/" + zeros + "-" + long + "a", api.ErrLong, 0},
		{strings.Repeat("x", 257), api.ErrPrefix, 0},
		{strings.Repeat("x", 258), api.ErrLong, 0},
	} {
		if _, e, at := Parse(c.text); e != c.e || at != c.at {
			t.Errorf("Parse(%.60q) = %d, %d, want %d, %d", c.text, e, at, c.e, c.at)
		}
		holdParse(t, c.text)
	}
}

// P2.3 to P2.5: a label's text cut at each place, with each byte at each place, and with bytes between.
func TestParseChanged(t *testing.T) {
	text := "/graft/store/0123456789abcdfghijklmnpqrsvwxyz-hello-2.12"
	for at := range len(text) + 1 {
		holdParse(t, text[:at])
		holdParse(t, text[at:])
		holdParse(t, text[:at]+"/"+text[at:])
		holdBase(t, text[13:max(13, at)])
		holdSplit(t, text[:at])
		holdSplit(t, text[:at]+"/a/b")
	}
	for at := range len(text) {
		for b := range 256 {
			changed := []byte(text)
			changed[at] = byte(b)
			holdParse(t, string(changed))
			holdBase(t, string(changed[13:]))
			holdSplit(t, string(changed)+"/bin")
		}
	}
}

// P2.5.
func TestThereAndBack(t *testing.T) {
	r := rand.New(rand.NewPCG(2, 5))
	for i := range 2000 {
		l := someLabel(r)
		if i%50 == 0 {
			l.Name += strings.Repeat("z", 211-len(l.Name))
		}
		base, e := Base(l)
		if e != api.OK {
			t.Fatalf("Base(%v): %d", l, e)
		}
		if back, e, at := ParseBase(base); back != l || e != api.OK || at != 0 {
			t.Fatalf("ParseBase(%q) = %v, %d, %d", base, back, e, at)
		}
		text, e := Print(l)
		if e != api.OK || text != "/graft/store/"+base {
			t.Fatalf("Print(%v) = %q, %d", l, text, e)
		}
		if back, e, at := Parse(text); back != l || e != api.OK || at != 0 {
			t.Fatalf("Parse(%q) = %v, %d, %d", text, back, e, at)
		}
		if back, steps, e, at := Split(text); back != l || len(steps) != 0 || e != api.OK || at != 0 {
			t.Fatalf("Split(%q) = %v, %q, %d, %d", text, back, steps, e, at)
		}
	}
}

// P2.6, example 5.
func TestSplitExamples(t *testing.T) {
	p := "/graft/store/" + zeros + "-x"
	n := len(p)
	a255 := strings.Repeat("a", 255)
	for _, c := range []struct {
		more  string
		steps []string
		e     api.Errno
		at    int
	}{
		{"", nil, api.OK, 0},
		{"/bin/sh", []string{"bin", "sh"}, api.OK, 0},
		{"/bin//sh", nil, api.ErrEntry, n + 5},
		{"/bin/..", nil, api.ErrEntry, n + 5},
		{"/..a", []string{"..a"}, api.OK, 0},
		{"/...", []string{"..."}, api.OK, 0},
		{"/.a/..b", []string{".a", "..b"}, api.OK, 0},
		{"/", nil, api.ErrEntry, n + 1},
		{"//", nil, api.ErrEntry, n + 1},
		{"/a/", nil, api.ErrEntry, n + 3},
		{"/.", nil, api.ErrEntry, n + 1},
		{"/./a", nil, api.ErrEntry, n + 1},
		{"/../a", nil, api.ErrEntry, n + 1},
		{"/a\x00b", nil, api.ErrEntry, n + 1},
		{"/a/\x00", nil, api.ErrEntry, n + 3},
		{"/\xff\x80 :", []string{"\xff\x80 :"}, api.OK, 0},
		{"/" + a255, []string{a255}, api.OK, 0},
		{"/b/" + a255 + "/c", []string{"b", a255, "c"}, api.OK, 0},
		{"/" + a255 + "a", nil, api.ErrEntry, n + 1},
		{"/b/" + a255 + "a/..", nil, api.ErrEntry, n + 3},
		{" /..", nil, api.ErrName, n},
		{strings.Repeat("y", 211) + "/..", nil, api.ErrLong, 0},
	} {
		l, steps, e, at := Split(p + c.more)
		if e != c.e || at != c.at || !slices.Equal(steps, c.steps) {
			t.Errorf("Split of the label and %.40q = %.40q, %d, %d, want %d, %d", c.more, steps, e, at, c.e, c.at)
		}
		if e == api.OK && l != (api.Label{Name: "x"}) || e != api.OK && (l != api.Label{}) {
			t.Errorf("Split of the label and %.40q has the label %v", c.more, l)
		}
		holdSplit(t, p+c.more)
	}
	for _, text := range []string{"", "/", "/graft/x", "/graft/store", "/graft/store/", "/graft/store//a", "/graft/store/" + zeros + "/a", "/graft/store/" + zeros + "-/a"} {
		holdSplit(t, text)
	}
}

// P2.6: ways of 16384 and of 16385 bytes.
func TestSplitLong(t *testing.T) {
	p := "/graft/store/" + zeros + "-x"
	way := p + strings.Repeat("/a", (16384-len(p))/2)
	way += strings.Repeat("a", 16384-len(way))
	_, steps, e, at := Split(way)
	if len(way) != 16384 || e != api.OK || at != 0 || len(steps) != (16384-len(p))/2 {
		t.Errorf("a way of %d bytes: %d steps, %d, %d", len(way), len(steps), e, at)
	}
	for _, long := range []string{way + "a", strings.Repeat("x", 16385), strings.Repeat("/", 1<<20)} {
		if l, steps, e, at := Split(long); l != (api.Label{}) || len(steps) != 0 || e != api.ErrLong || at != 0 {
			t.Errorf("a way of %d bytes: %v, %d steps, %d, %d", len(long), l, len(steps), e, at)
		}
	}
	if _, _, e, at := Split(strings.Repeat("x", 16384)); e != api.ErrLong || at != 0 {
		t.Errorf("a way without a slash: %d, %d", e, at)
	}
	if _, _, e, at := Split(strings.Repeat("/", 16384)); e != api.ErrPrefix || at != 1 {
		t.Errorf("a way of slashes: %d, %d", e, at)
	}
}

// P2.6: ways that chance has made of what may and may not be a step.
func TestSplitChance(t *testing.T) {
	r := rand.New(rand.NewPCG(2, 6))
	parts := []string{"a", "b.c", "..", ".", "", "...", "a\x00", "\xff", strings.Repeat("s", 255), strings.Repeat("s", 256), "x y", "-"}
	for range 5000 {
		text, _ := Print(someLabel(r))
		for range r.IntN(5) {
			part := parts[r.IntN(len(parts))]
			if r.IntN(3) > 0 {
				part = parts[r.IntN(2)]
			}
			text += "/" + part
		}
		holdSplit(t, text)
	}
}

// What is handed out as a list is new memory.
func TestSplitMemory(t *testing.T) {
	text := "/graft/store/" + zeros + "-x/a/b/c"
	_, first, _, _ := Split(text)
	_, second, _, _ := Split(text)
	clear(first[:cap(first)])
	if !slices.Equal(second, []string{"a", "b", "c"}) {
		t.Errorf("a second answer became %q", second)
	}
}
