package card

import (
	"fmt"
	"slices"
	"strings"
	"testing"

	"graft/api"
)

// holdFault holds Read of a text that is refused.
func holdFault(t *testing.T, text string, want api.Errno, place int) {
	t.Helper()
	if c, e, at := Read(text); !same(c, api.Card{}) || e != want || at != place {
		t.Errorf("P10.3: Read(%.1200q) = %+v, %d, %d, want %d, %d", text, c, e, at, want, place)
	}
	holdRead(t, text)
}

// P10.2: the texts of two cards, written out, and P10.4 of them.
func TestPrint(t *testing.T) {
	for _, x := range []struct {
		c    api.Card
		text string
	}{{first(), firstText}, {full(), fullText}} {
		if text, e, n := Print(x.c); text != x.text || e != api.OK || n != 0 {
			t.Errorf("P10.2: Print = %q, %d, %d, want %q", text, e, n, x.text)
		}
		if c, e, at := Read(x.text); !same(c, x.c) || e != api.OK || at != 0 {
			t.Errorf("P10.4: Read = %+v, %d, %d", c, e, at)
		}
	}
}

// P10.2, P10.4 and the table of limits: the longest card fits, and comes back.
func TestPrintLongest(t *testing.T) {
	stem := strings.Repeat("n", 208)
	c := full()
	c.Label, c.Maker = "/graft/store/"+zeros+"-"+stem+"abc", zeros+"-"+stem+"abc"
	c.Url, c.FileSize = strings.Repeat("a/", 127)+"a", 2097152
	c.Refs, c.Marks = nil, nil
	for i := range 256 {
		c.Refs = append(c.Refs, fmt.Sprintf("%s-%s%03d", zeros, stem, i))
	}
	for i := range 16 {
		c.Marks = append(c.Marks, api.Mark{Key: fmt.Sprintf("%s%03d", stem, i), Tag: tagB})
	}
	text, e, n := Print(c)
	if e != api.OK || n != 0 || text != plainText(c) || len(text) > api.MaxCard || len(text) < 60000 {
		t.Errorf("P10.2: %d bytes, %d, %d", len(text), e, n)
	}
	if back, e, _ := Read(text); e != api.OK || !same(back, c) {
		t.Errorf("P10.4: the longest card: %d", e)
	}
	holdSign(t, c, api.Key{Name: stem + "007", Secret: []byte("s")})
	holdSign(t, c, api.Key{Name: stem + "0071", Secret: []byte("s")})
}

// lineEnds is the places behind each line feed.
func lineEnds(text string) []int {
	var out []int
	for i := range len(text) {
		if text[i] == '\n' {
			out = append(out, i+1)
		}
	}
	return out
}

// P10.3: a text that ends ahead of each line, within each, and without a line feed.
func TestReadCut(t *testing.T) {
	for _, text := range []string{firstText, fullText} {
		ends := lineEnds(text)
		for n := range len(text) + 1 {
			if at := slices.Index(ends, n); at >= 7 {
				if _, e, _ := Read(text[:n]); e != api.OK {
					t.Errorf("P10.3: %d lines: %d", at+1, e)
				}
				holdRead(t, text[:n])
				continue
			}
			holdFault(t, text[:n], api.ErrShort, n)
		}
	}
}

// P10.3: every byte turned, taken out, put in twice.
func TestReadTurned(t *testing.T) {
	bytes := "\n\x00 :;,x0-M\xffz"
	for _, text := range []string{firstText, fullText} {
		for i := range len(text) {
			for _, b := range []byte(bytes) {
				holdRead(t, text[:i]+string([]byte{b})+text[i+1:])
				holdRead(t, text[:i]+string([]byte{b})+text[i:])
			}
			holdRead(t, text[:i]+text[i+1:])
			holdRead(t, text[:i]+text[i:i+1]+text[i:])
			holdRead(t, text[:i]+string([]byte{text[i] ^ 0x20})+text[i+1:])
		}
	}
}

// P10.3: each line's name wrong, its colon or blank missing, a blank more; a line that is missing or that comes twice.
func TestReadLines(t *testing.T) {
	for _, text := range []string{firstText, fullText} {
		lines := strings.SplitAfter(strings.TrimSuffix(text, "\n"), "\n")
		lines[len(lines)-1] += "\n"
		p := 0
		for i, line := range lines {
			with := func(changed string) string {
				return text[:p] + changed + text[p+len(line):]
			}
			colon := strings.Index(line, ":")
			name, rest := line[:colon], line[colon+1:]
			for _, wrong := range []string{strings.ToLower(name) + ":" + rest, strings.ToUpper(name) + ":" + rest, name + rest, name + "x:" + rest, " " + name + ":" + rest, name + " :" + rest, name[1:] + ":" + rest, ":" + rest, "\n" + line, "x\n"} {
				holdFault(t, with(wrong), api.ErrLine, p)
			}
			if name != "Refs" {
				holdFault(t, with(name+":"+rest[1:]), api.ErrLine, p)
				holdFault(t, with(name+":\n"), api.ErrLine, p)
				holdFault(t, with(name+":\t"+rest[1:]), api.ErrLine, p)
			}
			if i < 8 && i < len(lines)-1 {
				holdFault(t, with(""), api.ErrLine, p)
			}
			if i < 8 {
				holdFault(t, text[:p+len(line)]+line+text[p+len(line):], api.ErrLine, p+len(line))
			}
			p += len(line)
		}
	}
}

// P10.3: all orders of a few lines behind the eight.
func TestReadBehind(t *testing.T) {
	lines := []string{"Maker: " + baseB + "\n", "Ca: flat\n", "Mark: a:" + tagA + "\n", "Mark: b:" + tagB + "\n", "Maker: \n", "Ca: \n", "Mark: c\n", "Mark: :\n", "Mark: \n", "Refs:\n", "Label: " + textL + "\n", "\n", "Maker: x\n", "Ca: x\n", "Mark: a:x\n", "Mark"}
	texts := []string{firstText}
	for range 4 {
		var longer []string
		for _, text := range texts {
			holdRead(t, text)
			for _, line := range lines {
				longer = append(longer, text+line)
			}
		}
		texts = longer
	}
	n := len(firstText)
	maker, ca, mark := "Maker: "+baseB+"\n", "Ca: text\n", "Mark: k:"+tagA+"\n"
	for _, x := range []struct {
		behind string
		e      api.Errno
		at     int
	}{
		{maker + ca + mark, api.OK, 0}, {maker + mark, api.OK, 0}, {ca + mark, api.OK, 0}, {mark, api.OK, 0}, {maker, api.OK, 0}, {ca, api.OK, 0}, {"", api.OK, 0},
		{ca + maker, api.ErrLine, len(ca)}, {ca + ca, api.ErrLine, len(ca)}, {maker + maker, api.ErrLine, len(maker)}, {mark + maker, api.ErrLine, len(mark)}, {mark + ca, api.ErrLine, len(mark)}, {mark + "Refs:\n", api.ErrLine, len(mark)}, {mark + "\n", api.ErrLine, len(mark)}, {maker + ca + maker, api.ErrLine, len(maker + ca)},
		{mark + mark, api.ErrMark, 6}, {maker + mark + mark, api.ErrMark, len(maker) + 6}, {ca + mark + "Mark: j:" + tagA + "\n", api.ErrMark, len(ca) + 6}, {mark + "Mark: l\n", api.ErrMark, len(mark) + 6}, {mark + "Mark: l:\n", api.ErrMark, 6},
		{"Mark: \n", api.ErrMark, 6}, {"Mark: x\n", api.ErrMark, 6}, {"Mark: :" + tagA + "\n", api.ErrMark, 6}, {"Mark: k:" + tagA + ":\n", api.ErrMark, 6}, {"Mark: k::" + tagA + "\n", api.ErrMark, 6}, {"Mark: k:x:y\n", api.ErrMark, 6}, {"Mark:  k:" + tagA + "\n", api.ErrMark, 6},
		{"Maker: \n", api.ErrField, 7}, {"Ca: \n", api.ErrField, 4}, {maker + "Ca: \n", api.ErrField, len(maker) + 4}, {"Maker: " + textL + "\n", api.ErrField, 7}, {maker + "Ca: fixed\n", api.ErrField, len(maker) + 4}, {"Maker: x\nCa: x\n", api.ErrField, 7}, {"Maker:  " + baseB + "\n", api.ErrField, 7},
		{"x", api.ErrShort, 1}, {mark + "Mark: k", api.ErrShort, len(mark) + 7}, {"Maker: ", api.ErrShort, 7}, {"x\n", api.ErrLine, 0}, {"\n", api.ErrLine, 0}, {"Maker:\n", api.ErrLine, 0},
	} {
		if x.e == api.OK {
			if _, e, at := Read(firstText + x.behind); e != api.OK || at != 0 {
				t.Errorf("P10.3: %q: %d, %d", x.behind, e, at)
			}
			continue
		}
		holdFault(t, firstText+x.behind, x.e, n+x.at)
	}
}

// P10.3: two lines that change places.
func TestReadSwapped(t *testing.T) {
	lines := strings.SplitAfter(fullText, "\n")
	lines = lines[:len(lines)-1]
	for i := range lines {
		for j := range i {
			other := slices.Clone(lines)
			other[i], other[j] = other[j], other[i]
			holdRead(t, strings.Join(other, ""))
			other[i] = ""
			holdRead(t, strings.Join(other, ""))
			other[j] = lines[j]
			holdRead(t, strings.Join(other, ""))
		}
	}
}

// P10.3: sizes.
func TestReadSizes(t *testing.T) {
	for _, name := range []string{"FileSize: ", "ArkSize: "} {
		place := strings.Index(fullText, name) + len(name)
		end := place + strings.Index(fullText[place:], "\n")
		for text, ok := range map[string]bool{
			"0": true, "1": true, "7": true, "10": true, "999999": true, "1048576": true,
			"": false, "00": false, "05": false, "+5": false, "-5": false, "-0": false, "+0": false, " 5": false, "5 ": false, "5\r": false, "0x5": false, "1_0": false, "5.0": false, "1e3": false, "x": false, "٣": false,
			"1000000000": false, "9999999999": false, "0000000005": false, "9223372036854775808": false, "18446744073709551621": false, "-9223372036854775808": false, strings.Repeat("9", 60000): false, "\x00": false,
		} {
			with := fullText[:place] + text + fullText[end:]
			if !ok {
				holdFault(t, with, api.ErrField, place)
				// Ahead of what Check would find in lines ahead of it, and ahead of faults of later lines.
				holdFault(t, strings.Replace(with, "Press: gzip", "Press: zip ", 1), api.ErrField, place)
				holdFault(t, strings.Replace(with, "Refs:", "Rexs:", 1), api.ErrField, place)
				continue
			}
			if _, e, at := Read(with); e != api.OK || at != 0 {
				t.Errorf("P10.3: %s%s: %d, %d", name, text, e, at)
			}
			holdRead(t, with)
		}
		// Nine digits are read, and then it is Check that refuses them: behind what it finds in other lines.
		with := fullText[:place] + "999999999" + fullText[end:]
		holdFault(t, with, api.ErrField, place)
		holdFault(t, strings.Replace(with, "Press: gzip", "Press: zip ", 1), api.ErrField, strings.Index(fullText, "gzip"))
		holdFault(t, strings.Replace(with, "Refs:", "Rexs:", 1), api.ErrLine, strings.Index(with, "Refs:"))
	}
}

// P10.3: references.
func TestReadRefs(t *testing.T) {
	place := strings.Index(firstText, "Refs:") + 5
	y := zeros + "-y"
	for _, x := range []struct {
		behind string
		refs   []string
	}{{"", nil}, {" " + baseB, []string{baseB}}, {" " + baseB + " " + y, []string{baseB, y}}} {
		with := firstText[:place] + x.behind + "\n"
		want := first()
		want.Refs = x.refs
		if c, e, at := Read(with); e != api.OK || at != 0 || !same(c, want) {
			t.Errorf("P10.3: Refs:%s: %+v, %d, %d", x.behind, c, e, at)
		}
		holdRead(t, with)
	}
	for _, behind := range []string{
		"x", baseB, "\t" + baseB, ":" + baseB, " ", "  ", "  " + baseB, " " + baseB + " ", " " + baseB + "  " + y, " " + y + " " + baseB, " " + baseB + " " + baseB, " " + textL, " x", " " + baseB + "," + y, "\r", " " + baseB + "\r",
		strings.Repeat(" ", 257), " " + strings.Join(bases(257), " "), strings.Repeat(" ", 100000),
	} {
		holdFault(t, firstText[:place]+behind+"\n", api.ErrField, place)
		holdFault(t, firstText[:place]+behind+"\nMaker: x\n", api.ErrField, place)
	}
	// What stands ahead of the first blank is met while it is read, wrong references not until all is read.
	n := len(firstText)
	holdFault(t, firstText[:place]+"x\nx\n", api.ErrField, place)
	holdFault(t, firstText[:place]+" x\nx\n", api.ErrLine, n+2)
	holdFault(t, firstText[:place]+" x\nMark: k\n", api.ErrMark, n+8)
	if c, e, _ := Read(firstText[:place] + " " + strings.Join(bases(256), " ") + "\n"); e != api.OK || !slices.Equal(c.Refs, bases(256)) {
		t.Errorf("P10.3: 256 references: %d", e)
	}
}

// P10.3: Check's error of each field, at its line's place.
func TestReadChecked(t *testing.T) {
	for _, x := range []struct{ name, value string }{
		{"Label: ", baseB}, {"Label: ", ""}, {"Url: ", ""}, {"Url: ", "a//b"}, {"Press: ", "zip"}, {"Press: ", ""}, {"Press: ", "none"}, {"FileSum: ", "x"}, {"FileSum: ", ""}, {"FileSize: ", "2097153"}, {"ArkSum: ", "x"}, {"ArkSum: ", ""}, {"ArkSize: ", "1048577"},
		{"Refs:", " x"}, {"Refs:", " " + baseB + " " + baseB}, {"Maker: ", textL}, {"Ca: ", "fixed"}, {"Mark: ", "K:AA=="}, {"Mark: ", ".k:" + tagA}, {"Mark: ", "k:" + tagA},
	} {
		place := strings.Index(fullText, x.name) + len(x.name)
		end := place + strings.Index(fullText[place:], "\n")
		text := fullText[:place] + x.value + fullText[end:]
		want, at := api.ErrField, place
		if x.name == "Mark: " {
			want = api.ErrMark
		}
		if x.value == "none" { // then it is the file's sum that differs
			at = strings.Index(text, "FileSum: ") + len("FileSum: ")
		}
		holdFault(t, text, want, at)
		// Behind faults of later lines.
		holdFault(t, text+"x", api.ErrShort, len(text)+1)
		holdFault(t, text+"x\n", api.ErrLine, len(text))
	}
	// Of a later mark that is wrong it is the first one's place.
	at := strings.Index(fullText, "Mark: ") + 6
	holdFault(t, fullText+"Mark: a:"+tagA+"\n", api.ErrMark, at)
	holdFault(t, fullText+"Mark: z:AA==\n", api.ErrMark, at)
	// Where Press is none: sums and sizes that differ.
	holdFault(t, strings.Replace(firstText, "FileSum: "+sumS, "FileSum: "+sumT, 1), api.ErrField, strings.Index(firstText, "FileSum: ")+9)
	holdFault(t, strings.Replace(firstText, "ArkSum: "+sumS, "ArkSum: "+sumT, 1), api.ErrField, strings.Index(firstText, "FileSum: ")+9)
	holdFault(t, strings.Replace(firstText, "ArkSize: 5", "ArkSize: 6", 1), api.ErrField, strings.Index(firstText, "FileSize: ")+10)
	if c, e, _ := Read(firstText + "Mark: k:" + tagA + "\n" + "Mark: l:" + tagB + "\n"); e != api.OK || !slices.Equal(c.Marks, []api.Mark{{Key: "k", Tag: tagA}, {Key: "l", Tag: tagB}}) {
		t.Errorf("P10.3: two marks: %+v, %d", c, e)
	}
}

// P10.3: texts of MaxCard bytes and of one more; 16 marks and 17.
func TestReadLong(t *testing.T) {
	pad := func(name string, to int) string {
		at := strings.Index(fullText, name) + len(name)
		return fullText[:at] + strings.Repeat("a", to-len(fullText)) + fullText[at:]
	}
	for _, name := range []string{"Label: ", "Url: ", "Refs: ", "Maker: "} {
		place := strings.Index(fullText, name) + len(name)
		if name == "Refs: " {
			place--
		}
		holdFault(t, pad(name, api.MaxCard), api.ErrField, place)
		holdFault(t, pad(name, api.MaxCard+1), api.ErrLong, 0)
	}
	for text, e := range map[string]api.Errno{"x": api.ErrShort, "\n": api.ErrLine, " ": api.ErrShort} {
		at := 0
		if e == api.ErrShort {
			at = api.MaxCard
		}
		holdFault(t, strings.Repeat(text, api.MaxCard), e, at)
		holdFault(t, strings.Repeat(text, api.MaxCard+1), api.ErrLong, 0)
	}
	holdFault(t, fullText+strings.Repeat("x", api.MaxCard-len(fullText)), api.ErrShort, api.MaxCard)
	many := firstText
	for len(many)+8 <= api.MaxCard {
		many += "Mark: :\n"
	}
	holdFault(t, many, api.ErrMark, len(firstText)+6)
	c := first()
	c.Marks = marksBy(16)
	holdRead(t, plainText(c))
	if back, e, _ := Read(plainText(c)); e != api.OK || !same(back, c) {
		t.Errorf("P10.3: 16 marks: %d", e)
	}
	c.Marks = marksBy(17)
	holdFault(t, plainText(c), api.ErrMark, len(firstText)+6)
}

// P10.3, P10.4: texts of any lines.
func TestReadMany(t *testing.T) {
	r := sourceOf(3)
	all := turns()
	for range 5000 {
		c := someCard(r)
		if r.IntN(2) == 0 {
			pick(r, all...).do(&c)
		}
		text := []byte(plainText(c))
		for range r.IntN(3) {
			i := r.IntN(len(text))
			switch r.IntN(4) {
			case 0:
				text[i] ^= byte(1 << r.IntN(8))
			case 1:
				text = slices.Delete(text, i, min(len(text), i+1+r.IntN(3)))
			case 2:
				text = slices.Insert(text, i, []byte(pick(r, "\n", " ", ":", "Mark: ", "Refs:", "0", "Ca: text\n"))...)
			case 3:
				text = text[:i+1]
			}
		}
		holdRead(t, string(text))
	}
}
