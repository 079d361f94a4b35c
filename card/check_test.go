package card

import (
	"fmt"
	"strings"
	"testing"

	"graft/api"
)

// turn is a change of a card, and the number of the field that is wrong by it; 0: none is.
type turn struct {
	what  string
	field int
	do    func(c *api.Card)
}

// bases is n bases in order.
func bases(n int) []string {
	var out []string
	for i := range n {
		out = append(out, fmt.Sprintf("%s-%03d", zeros, i))
	}
	return out
}

// marksBy is n marks in order.
func marksBy(n int) []api.Mark {
	var out []api.Mark
	for i := range n {
		out = append(out, api.Mark{Key: fmt.Sprintf("k%02d", i), Tag: tagA})
	}
	return out
}

// texts is changes of one field to some texts.
func texts(name string, field int, into func(c *api.Card, text string), list ...string) []turn {
	var out []turn
	for _, text := range list {
		out = append(out, turn{fmt.Sprintf("%s %.40q of %d bytes", name, text, len(text)), field, func(c *api.Card) { into(c, text) }})
	}
	return out
}

// labelTurns is changes of Label.
func labelTurns() []turn {
	into := func(c *api.Card, text string) { c.Label = text }
	n211 := strings.Repeat("n", 211)
	return append(
		texts("Label", 0, into, textL, "/graft/store/"+zeros+"-"+n211, "/graft/store/"+strings.Repeat("z", 32)+"--"),
		texts("Label", 1, into, "", baseB, "/graft/store/", textL+"/bin", " "+textL, textL+" ", textL+"\n", "/graft/store/"+zeros+"-", "/graft/store/"+zeros+"-.x", "/graft/store/"+zeros+"-"+n211+"n",
			"/graft/store/"+zeros[1:]+"-x", "/graft/store/"+zeros[1:]+"e-x", "/graft/store/"+zeros+"+x", "/Graft/store/"+baseB)...)
}

// urlTurns is changes of Url.
func urlTurns() []turn {
	into := func(c *api.Card, text string) { c.Url = text }
	n211 := strings.Repeat("n", 211)
	return append(
		texts("Url", 0, into, "a", "a/b.c", "ark/x.ark", "-/+/=", n211, strings.Repeat("a/", 127)+"a", n211+"/"+strings.Repeat("m", 43)),
		texts("Url", 2, into, "", "/", "/x", "x/", "a//b", "a/b//", "//a", ".x", "a/.b", "./a", "../a", "a b", "a/b\n", "a\x00", "é", "a:b", n211+"n", "a/"+n211+"n", strings.Repeat("a/", 127)+"ab", n211+"/"+strings.Repeat("m", 44),
			strings.Repeat("a/", 128), strings.Repeat("a/", 4000)+"a")...)
}

// sumTurns is changes of FileSum and ArkSum: of both where the first is to be wrong, as Press may be none.
func sumTurns() []turn {
	hex := "sha256:" + strings.Repeat("0", 64)
	form64 := "sha256-" + tagA
	wrongs := []string{"", "x", hex, form64, sumS[:58], sumS + "0", "sha256-" + sumS[7:], "sha1:" + sumS[7:], strings.Replace(sumS, ":0", ":2", 1), strings.Replace(sumS, ":0", ":z", 1), sumS[:58] + "e", sumS[:58] + "A", sumS + "\n", " " + sumS}
	both := func(c *api.Card, text string) { c.FileSum, c.ArkSum = text, text }
	file := func(c *api.Card, text string) { c.Press, c.FileSum = "gzip", text }
	ark := func(c *api.Card, text string) { c.Press, c.ArkSum = "gzip", text }
	out := texts("both sums", 0, both, sumS, sumT)
	out = append(out, texts("FileSum of gzip", 0, file, sumS, sumT)...)
	out = append(out, texts("ArkSum of gzip", 0, ark, sumS, sumT)...)
	out = append(out, texts("both sums", 4, both, wrongs...)...)
	out = append(out, texts("FileSum of gzip", 4, file, wrongs...)...)
	return append(out, texts("ArkSum of gzip", 6, ark, wrongs...)...)
}

// noneTurns is changes of sums and sizes where the file must be the archive.
func noneTurns() []turn {
	none := func(what string, field int, fileSum string, fileSize int, arkSum string, arkSize int) turn {
		return turn{what, field, func(c *api.Card) {
			c.Press, c.FileSum, c.FileSize, c.ArkSum, c.ArkSize = "none", fileSum, fileSize, arkSum, arkSize
		}}
	}
	return []turn{
		none("none with the same", 0, sumT, 0, sumT, 0),
		none("none with MaxArk", 0, sumT, 1048576, sumT, 1048576),
		none("none with another FileSum", 4, sumT, 5, sumS, 5),
		none("none with a wrong FileSum", 4, "x", 5, sumS, 5),
		none("none with a wrong ArkSum", 4, sumS, 5, "x", 5),
		none("none with the same wrong sum", 4, "x", 5, "x", 5),
		none("none with two wrong sums", 4, "x", 5, "y", 5),
		none("none with another FileSum and FileSize", 4, sumT, 6, sumS, 5),
		none("none with another FileSize", 5, sumS, 6, sumS, 5),
		none("none with a FileSize above MaxPress", 5, sumS, 2097153, sumS, 5),
		none("none with an ArkSize above MaxArk", 5, sumS, 5, sumS, 1048577),
		none("none with an ArkSize below 0", 5, sumS, 5, sumS, -5),
		none("none with the same size above MaxArk", 7, sumS, 1048577, sumS, 1048577),
		none("none with the same size MaxPress", 7, sumS, 2097152, sumS, 2097152),
		none("none with the same size above MaxPress", 5, sumS, 2097153, sumS, 2097153),
		none("none with the same size below 0", 5, sumS, -1, sumS, -1),
	}
}

// sizeTurns is changes of the sizes.
func sizeTurns() []turn {
	var out []turn
	sizes := func(field int, into func(c *api.Card, n int), list ...int) {
		for _, n := range list {
			out = append(out, turn{fmt.Sprint("size ", n), field, func(c *api.Card) { c.Press = "gzip"; into(c, n) }})
		}
	}
	file := func(c *api.Card, n int) { c.FileSize = n }
	ark := func(c *api.Card, n int) { c.ArkSize = n }
	sizes(0, file, 0, 1, 1048577, 2097151, 2097152)
	sizes(5, file, -1, 2097153, 999999999, 1<<62, -1<<63, 1<<63-1)
	sizes(0, ark, 0, 1, 1048575, 1048576)
	sizes(7, ark, -1, 1048577, 2097152, 1<<62, -1<<63, 1<<63-1)
	return out
}

// refsTurns is changes of Refs.
func refsTurns() []turn {
	z := func(names ...string) []string {
		for i := range names {
			names[i] = zeros + "-" + names[i]
		}
		return names
	}
	var out []turn
	for _, c := range []struct {
		field int
		refs  []string
	}{
		{0, nil}, {0, []string{}}, {0, []string{baseB}}, {0, z("A", "a")}, {0, z("a", "aa")}, {0, z("a", "b", "c")}, {0, []string{zeros + "-z", zeros[1:] + "1-a"}}, {0, []string{"1" + zeros[1:] + "-a", "z" + zeros[1:] + "-a"}},
		{0, bases(255)}, {0, bases(256)}, {8, bases(257)}, {8, bases(1000)},
		{8, []string{baseB, baseB}}, {8, z("b", "a")}, {8, z("aa", "a")}, {8, z("a", "A")}, {8, z("a", "c", "b")}, {8, z("a", "b", "a")}, {8, z("a", "a", "b")}, {8, []string{zeros[1:] + "1-a", zeros + "-z"}},
		{8, []string{""}}, {8, []string{"", ""}}, {8, []string{baseB, ""}}, {8, []string{textL}}, {8, []string{zeros}}, {8, []string{zeros + "-"}}, {8, z("a", ".b")}, {8, z("a b")}, {8, z("a", "b,c")}, {8, z(strings.Repeat("n", 212))}, {0, z(strings.Repeat("n", 211))},
		{8, []string{zeros[1:] + "e-a"}}, {8, []string{zeros[1:] + "-a"}}, {8, []string{zeros + "_a"}}, {8, []string{strings.Repeat("Z", 32) + "-a"}}, {8, z("a", "b\n")},
	} {
		out = append(out, turn{fmt.Sprintf("Refs %.200q", c.refs), c.field, func(x *api.Card) { x.Refs = c.refs }})
	}
	return out
}

// markTurns is changes of Marks.
func markTurns() []turn {
	by := func(keys ...string) []api.Mark {
		var out []api.Mark
		for _, k := range keys {
			out = append(out, api.Mark{Key: k, Tag: tagB})
		}
		return out
	}
	var out []turn
	add := func(field int, marks []api.Mark) {
		out = append(out, turn{fmt.Sprintf("Marks %.200q", marks), field, func(x *api.Card) { x.Marks = marks }})
	}
	for _, marks := range [][]api.Mark{nil, {}, by("k"), by("A", "a"), by("a", "aa"), by("a", "b", "c"), by(strings.Repeat("n", 211)), by("-"), marksBy(15), marksBy(16)} {
		add(0, marks)
	}
	for _, marks := range [][]api.Mark{marksBy(17), marksBy(300), by("k", "k"), by("b", "a"), by("aa", "a"), by("a", "A"), by("a", "c", "b"), by("a", "b", "a"), by(""), by(".k"), by("k", ".l"), by("a b"), by("a:b"), by(strings.Repeat("n", 212)), by("k\n")} {
		add(11, marks)
	}
	for _, tag := range []string{"AA==", "", "=", "x", tagA[:40], tagA[:43], tagA + "=", tagA + "AAAA", tagA[:42] + "==", tagA[:43] + "A", tagA[:42] + "B=", tagA[:42] + "C=", "-" + tagA[1:], "\n" + tagA[1:], tagA[:42] + "=A", tagA + tagA, tagA + "\n"} {
		add(11, []api.Mark{{Key: "k", Tag: tag}})
		add(11, []api.Mark{{Key: "a", Tag: tagA}, {Key: "k", Tag: tag}, {Key: "z", Tag: tagB}})
	}
	return out
}

// turns is changes of each field.
func turns() []turn {
	n211 := strings.Repeat("n", 211)
	press := func(c *api.Card, text string) { c.Press = text }
	maker := func(c *api.Card, text string) { c.Maker = text }
	ca := func(c *api.Card, text string) { c.Ca = text }
	out := append(labelTurns(), urlTurns()...)
	out = append(out, texts("Press", 0, press, "gzip")...)
	out = append(out, texts("Press", 3, press, "", "zip", "None", "none ", "gzip\n", "nonegzip", "xz")...)
	out = append(out, sumTurns()...)
	out = append(out, noneTurns()...)
	out = append(out, sizeTurns()...)
	out = append(out, refsTurns()...)
	out = append(out, texts("Maker", 0, maker, "", baseB, zeros+"-"+n211)...)
	out = append(out, texts("Maker", 9, maker, textL, "x", zeros, zeros+"-", zeros+"-.x", zeros+"-a b", zeros+"-"+n211+"n", baseB+"\n", " ")...)
	out = append(out, texts("Ca", 0, ca, "", "text", "source", "group", "flat")...)
	out = append(out, texts("Ca", 10, ca, "fixed", "Text", "text ", " ", "guest", "none", "texts", "flat\n")...)
	return append(out, markTurns()...)
}

// holdCheck holds Check of a card whose field of that number is the first that is wrong.
func holdCheck(t *testing.T, what string, c api.Card, field int) {
	t.Helper()
	want := api.ErrField
	switch field {
	case 0:
		want = api.OK
	case 11:
		want = api.ErrMark
	}
	if e, n := Check(c); e != want || n != field {
		t.Errorf("P10.1: %s: Check = %d, %d, want %d, %d", what, e, n, want, field)
	}
	holdCard(t, c)
}

// P10.1: each field at what it may be and right beyond, P10.2 to P10.6 of all these cards.
func TestCheck(t *testing.T) {
	for _, x := range turns() {
		for _, c := range []api.Card{first(), full()} {
			x.do(&c)
			holdCheck(t, x.what, c, x.field)
		}
	}
	holdCheck(t, "no field", api.Card{}, 1)
	holdCheck(t, "the first", first(), 0)
	holdCheck(t, "the full one", full(), 0)
}

// P10.1: of several faults the first one is told.
func TestCheckFirst(t *testing.T) {
	one := []turn{}
	for _, x := range turns() {
		// Where several fields are changed at once, one fault may hide another.
		if x.field != 0 && (len(one) == 0 || one[len(one)-1].field != x.field) && !strings.HasPrefix(x.what, "none") && !strings.HasPrefix(x.what, "both") {
			one = append(one, x)
		}
	}
	seen := map[int]bool{}
	for _, a := range one {
		for _, b := range one {
			c := full()
			a.do(&c)
			b.do(&c)
			seen[a.field] = true
			if a.field != b.field {
				holdCheck(t, a.what+" and "+b.what, c, wrongField(a, b))
			}
		}
	}
	if len(seen) != 11 {
		t.Errorf("faults of %d fields, want 11", len(seen))
	}
}

// wrongField is the one of two wrong fields that is told; changes of sums and sizes make Press gzip, so that its own may be undone.
func wrongField(a, b turn) int {
	if a.field == 3 && (b.field >= 4 && b.field <= 7) {
		return b.field
	}
	return min(a.field, b.field)
}

// P10.1 to P10.6: any number of changes at once.
func TestCheckMany(t *testing.T) {
	r := sourceOf(1)
	all := turns()
	for range 6000 {
		c := pick(r, first(), full(), someCard(r))
		for range r.IntN(5) {
			pick(r, all...).do(&c)
		}
		holdCard(t, c)
	}
}

// P10.1 to P10.6: cards that may be.
func TestCheckRight(t *testing.T) {
	r := sourceOf(2)
	for range 3000 {
		c := someCard(r)
		if e, n := Check(c); e != api.OK || n != 0 {
			t.Fatalf("Check(%+v) = %d, %d", c, e, n)
		}
		holdCard(t, c)
	}
}

// P10.1: every byte at every place of each text.
func TestCheckBytes(t *testing.T) {
	fields := []func(c *api.Card) *string{
		func(c *api.Card) *string { return &c.Label }, func(c *api.Card) *string { return &c.Url }, func(c *api.Card) *string { return &c.Press },
		func(c *api.Card) *string { return &c.FileSum }, func(c *api.Card) *string { return &c.ArkSum }, func(c *api.Card) *string { return &c.Maker },
		func(c *api.Card) *string { return &c.Ca }, func(c *api.Card) *string { return &c.Refs[1] }, func(c *api.Card) *string { return &c.Marks[1].Key }, func(c *api.Card) *string { return &c.Marks[1].Tag },
	}
	for _, field := range fields {
		start := full()
		for i := range *field(&start) {
			for b := range 256 {
				c := full()
				text := []byte(*field(&c))
				text[i] = byte(b)
				*field(&c) = string(text)
				we, wn := plainCheck(c)
				if e, n := Check(c); e != we || n != wn {
					t.Fatalf("P10.1: Check(%+v) = %d, %d, want %d, %d", c, e, n, we, wn)
				}
			}
		}
	}
}
