package engine

import (
	"bytes"
	"fmt"
	"slices"
	"strings"
	"testing"

	"graft/api"
)

// P15.5, 3: what is mentioned and what is referred to, on each side of one another.
func TestScanDefect(t *testing.T) {
	hi := []api.Object{holding(lb, "hi"), holding(lc, "hi")}
	for _, x := range []struct {
		what  string
		text  string
		refs  []api.Label
		other api.Label
		place int
	}{
		{"one that is not mentioned", "hi", []api.Label{lb}, lb, 0},
		{"one that is not referred to", "x" + part(lb) + part(lb), nil, lb, fileAt + 1},
		{"itself, not mentioned", "hi", []api.Label{la}, la, 0},
		{"itself, not referred to", "12345" + part(la), nil, la, fileAt + 5},
		{"the lesser is not mentioned, the greater not referred to", part(lc), []api.Label{lb}, lb, 0},
		{"the lesser is not referred to, the greater not mentioned", "xy" + part(lb), []api.Label{lc}, lb, fileAt + 2},
		{"two that are not mentioned", "", []api.Label{lb, lc}, lb, 0},
		{"two that are not referred to, the greater first", part(lc) + part(lb), nil, lb, fileAt + 32},
		{"the second of two is not mentioned", part(lb), []api.Label{lb, lc}, lc, 0},
		{"the first of two is not mentioned", part(lc), []api.Label{lb, lc}, lb, 0},
		{"the second of two is not referred to", part(lc) + part(lb), []api.Label{lb}, lc, fileAt},
		{"the first of two is not referred to", part(lc) + part(lb), []api.Label{lc}, lb, fileAt + 32},
		{"all but one digit of it", part(lb)[:31], []api.Label{lb}, lb, 0},
		{"all but its first digit", part(lb)[1:] + "z", []api.Label{lb}, lb, 0},
	} {
		w := newWorld(t, append(hi, holding(la, x.text, x.refs...))...)
		w.denies("P15.5, 3: "+x.what, api.Outcome{Err: api.ErrScan, At: la, Other: x.other, Place: x.place}, lc, la, lb)
	}
	// What is not in the closure is not mentioned.
	w := newWorld(t, append(hi, holding(la, part(lb)+part(lc), lb))...)
	if r := w.rename(la); w.bytes(r[la]) != part(r[lb])+part(lc) || len(r) != 2 {
		t.Errorf("P15.5: %v", r)
	}
	w.denies("P15.5, 3: beside another root", api.Outcome{Err: api.ErrScan, At: la, Other: lc, Place: fileAt + 32}, la, lc)
}

// P15.5, 3, 5 and 9 of own objects.
func TestOwnDefects(t *testing.T) {
	w := newWorld(t)
	zero := api.Object{Label: named(0, "zero"), Ark: file("z"), Ca: api.ByText}
	w.lay(zero)
	text := w.text("t", strings.Repeat("0", 33), zero.Label)
	w.denies("P15.5, 5", api.Outcome{Err: api.ErrCross, At: text, Place: fileAt + 1}, text)
	w.take(holding(la, part(text), text))
	w.denies("P15.5, 5", api.Outcome{Err: api.ErrCross, At: text, Place: fileAt + 1}, la)
	named := w.tree("d", dir(entry(part(text), link("x"))))
	o, _ := w.e.Read(named)
	w = newWorld(t)
	other := w.text("t", "t")
	w.lay(api.Object{Label: o.Label, Ark: arkOf(dir(entry("x"+part(other), link("x")))), Refs: []api.Label{other}, Ca: api.ByGroup})
	w.denies("P15.5, 4", api.Outcome{Err: api.ErrInName, At: o.Label, Place: placeOf(arkOf(dir(entry("x"+part(other), link("x")))), part(other))}, o.Label)
}

// P15.5, 4: names at each place of a tree, files and links with the same bytes beside them.
func TestInNameDefect(t *testing.T) {
	b := part(lb)
	for i, x := range []struct {
		tree api.Node
		name string // the bytes ahead of the first mention in a name, and it
		skip int
	}{
		{dir(entry(b, link("x"))), b, 0},
		{dir(entry("x"+b, link("x"))), "x" + b, 1},
		{dir(entry(b+"x", dir())), b, 0},
		{dir(entry("a", fileNode(b)), entry("b", link(b)), entry("c", program("!"+b)), entry("d"+b, dir())), "d" + b, 1},
		{dir(entry("a", dir(entry("e"+b, fileNode(b)))), entry("d"+b, dir())), "e" + b, 1},
		{dir(entry("a", fileNode("name"+b+"entry")), entry("contents", fileNode(b)), entry("name", link("name")), entry("w"+b+b, dir())), "w" + b, 1},
		{dir(entry("a", fileNode(b)), entry(strings.Repeat("y", 223)+b, dir())), "y" + b, 1},
	} {
		data := arkOf(x.tree)
		want := api.Outcome{Err: api.ErrInName, At: la, Place: placeOf(data, x.name) + x.skip}
		newWorld(t, guest(la, data, lb), holding(lb, "hi")).denies(fmt.Sprint("P15.5, 4: ", i), want, la)
	}
	// Files that look like names, and names that mention nothing.
	for i, n := range []api.Node{
		dir(entry("a", fileNode("name\x00\x00\x00\x00"+b)), entry("target", link(b)), entry("x"+b[:31], fileNode(b))),
		fileNode(string(arkOf(dir(entry(b, link("x")))))),
		dir(entry("name", fileNode(b)), entry("node", program(b)), entry("z", link("z/"+b))),
	} {
		w := newWorld(t, guest(la, arkOf(n), lb), holding(lb, "hi"))
		r := w.rename(la)
		o, _ := w.e.Read(r[la])
		if want := bytes.ReplaceAll(arkOf(n), []byte(b), []byte(part(r[lb]))); !bytes.Equal(o.Ark, want) {
			t.Errorf("P15.5: %d: %q", i, o.Ark)
		}
	}
	// The first object, not the first that is looked at.
	data := arkOf(dir(entry(part(lc), link("x"))))
	newWorld(t, guest(lb, data, lc), guest(la, data, lc), holding(lc, "hi")).denies("P15.5, 4", api.Outcome{Err: api.ErrInName, At: la, Place: placeOf(data, part(lc))}, lc, lb, la)
}

// P15.5, 5: overlaps by each distance.
func TestCrossDefect(t *testing.T) {
	for n := 1; n <= 33; n++ {
		// The two share n - 1 digits less: from 31 common ones down to none, and a gap.
		shared := max(0, 32-n)
		p := digited(strings.Repeat("a", 32-shared)+strings.Repeat("b", shared), "p")
		q := digited(strings.Repeat("b", shared)+strings.Repeat("c", 32-shared), "q")
		text := "x" + part(p) + strings.Repeat("-", max(0, n-32)) + part(q)[shared:]
		w := newWorld(t, holding(la, text, p, q), holding(p, "p"), holding(q, "q"))
		if n < 32 {
			w.denies(fmt.Sprint("P15.5, 5: ", n), api.Outcome{Err: api.ErrCross, At: la, Place: fileAt + 1 + n}, la)
			continue
		}
		r := w.rename(la)
		if got := w.bytes(r[la]); got != "x"+part(r[p])+strings.Repeat("-", n-32)+part(r[q]) {
			t.Errorf("P15.5: %d apart: %q", n, got)
		}
	}
	// One that overlaps itself; the first two count.
	zero := named(0, "zero")
	for _, x := range []struct {
		text  string
		place int
	}{{strings.Repeat("0", 33), 1}, {strings.Repeat("0", 64) + "x" + strings.Repeat("0", 40), 1}, {strings.Repeat("0", 32) + "x" + strings.Repeat("0", 40), 34}} {
		newWorld(t, holding(la, x.text, zero), holding(zero, "z")).denies("P15.5, 5", api.Outcome{Err: api.ErrCross, At: la, Place: fileAt + x.place}, la)
	}
	// In a link's target.
	data := arkOf(dir(entry("l", link("to"+strings.Repeat("0", 35)))))
	newWorld(t, guest(la, data, zero), holding(zero, "z")).denies("P15.5, 5", api.Outcome{Err: api.ErrCross, At: la, Place: placeOf(data, "to0") + 3}, la)
	// In more places than can be kept.
	much := file(strings.Repeat("0", 1<<19))
	newWorld(t, guest(la, much, zero), holding(zero, "z")).denies("P15.5, 5", api.Outcome{Err: api.ErrCross, At: la, Place: fileAt + 1}, la)
}

// Mentions at every place of a file, with pieces of each length around 32: the same outcome and the same journal.
func TestMentionsInPieces(t *testing.T) {
	for at := range 40 {
		text := strings.Repeat("x", at) + part(lb) + part(la) + strings.Repeat("y", 40-at) + part(lb)
		objects := []api.Object{holding(la, text, la, lb), holding(lb, "hi")}
		files := ""
		for _, chunk := range []int{1, 2, 7, 8, 31, 32, 33, 64, 100, len(objects[0].Ark), len(objects[0].Ark) + 1, 1 << 62} {
			b := newBoth(t, objects...)
			out := b.rewrite(chunk, la)
			if out.Err != api.OK {
				t.Fatalf("P15.5: chunk %d: %s", chunk, show(out))
			}
			if got := filesOf(b.v); files == "" {
				files = got
			} else if got != files {
				t.Fatalf("W2: chunk %d: another journal", chunk)
			}
			r := tableOf(out.Map)
			if want := strings.ReplaceAll(strings.ReplaceAll(text, part(la), part(r[la])), part(lb), part(r[lb])); b.bytes(r[la]) != want {
				t.Fatalf("P15.5: chunk %d: %q", chunk, b.bytes(r[la]))
			}
		}
	}
}

// Mentions wherever one may be: the beginning and the end of a file, of an executable one, of a link's target; alone, and one
// behind the other.
func TestMentionsEverywhere(t *testing.T) {
	b, c := part(lb), part(lc)
	for i, n := range []api.Node{
		fileNode(b + c), fileNode(b + "x" + c), program(b + c + b + c), link(b + c), link("x" + c + b), fileNode(c + strings.Repeat("z", 1000) + b),
		dir(entry("1", fileNode(b)), entry("2", fileNode(c))), dir(entry("1", dir(entry("1", dir(entry("1", link(b+"/"+c))))))),
		dir(entry("1", program(c)), entry("2", link(b)), entry("3", fileNode("")), entry("4", fileNode(b+c+b))),
	} {
		x := newBoth(t, guest(la, arkOf(n), lb, lc), holding(lb, "hi"), holding(lc, c, lc))
		out := x.rewrite(3, la)
		r := tableOf(out.Map)
		o, _ := x.e.Read(r[la])
		want := bytes.ReplaceAll(bytes.ReplaceAll(arkOf(n), []byte(b), []byte(part(r[lb]))), []byte(c), []byte(part(r[lc])))
		if out.Err != api.OK || !bytes.Equal(o.Ark, want) || !slices.Equal(o.Refs, sorted(r[lb], r[lc])) {
			t.Errorf("P15.5: %d: %s, %q", i, show(out), o.Ark)
		}
	}
}

// P15.5, 9: strays in guests and own objects, in files, links and names, beside mentions and across them.
func TestStrayDefect(t *testing.T) {
	hi := holding(la, "hi")
	A := newWorld(t, hi).rename(la)[la]
	for i, x := range []struct {
		o    api.Object
		text string // ahead of the stray one
	}{
		{holding(lb, part(A)), ""},
		{holding(lb, part(la)+" is "+part(A)+part(A), la), part(A) + " is "},
		{guest(lb, arkOf(link("to/"+part(A)))), "to/"},
		{guest(lb, arkOf(dir(entry("in-"+part(A), dir())))), "in-"},
		{guest(lb, arkOf(dir(entry("a", fileNode("")), entry("b", program("p"+part(A)))))), "p"},
		{ownText("t", "own "+part(A)), "own "},
		{ownTree("t", fileNode("it "+part(A))), "it "},
	} {
		w := newWorld(t, hi)
		if x.o.Ca == api.Guest {
			w.take(x.o)
		} else {
			w.lay(x.o)
		}
		at := placeOf(bytes.ReplaceAll(x.o.Ark, []byte(part(la)), []byte(part(A))), x.text+part(A)) + len(x.text)
		w.denies(fmt.Sprint("P15.5, 9: ", i), api.Outcome{Err: api.ErrStray, At: x.o.Label, Place: at}, la, x.o.Label)
		if len(x.o.Refs) == 0 {
			w.rename(x.o.Label) // alone it is plain bytes
		}
	}
	// At a place that is one of a mention it may stand: of what is called so.
	w := newWorld(t, hi)
	w.rename(la)
	w.take(holding(lb, part(A)+part(la), la, A))
	r := w.rename(lb)
	if w.bytes(r[lb]) != part(A)+part(A) || !slices.Equal(w.refs(r[lb]), []api.Label{A}) {
		t.Errorf("P15.5: %q", w.bytes(r[lb]))
	}
	// The least object, its first place.
	d := named(4, "d")
	w = newWorld(t, hi, holding(d, part(A)), holding(lc, "1"+part(A)+part(A)), holding(lb, "hi"))
	w.denies("P15.5, 9: two objects", api.Outcome{Err: api.ErrStray, At: lc, Place: fileAt + 1}, d, la, lc, lb)
}

// P15.5, 9: an old hash part that comes about by writing a new one: at a place where none was.
func TestStrayAcross(t *testing.T) {
	// What is written at a's mention ends with A's last digits; with what stands behind, they are the hash part of z.
	A := newWorld(t, holding(la, "hi")).rename(la)[la]
	for _, n := range []int{1, 10, 31} {
		behind := strings.Repeat("z", 32-n)
		z := digited(part(A)[32-n:]+behind, "z")
		w := newWorld(t, holding(la, "hi"), holding(z, "z"), holding(lb, part(la)+behind+" "+part(z), la, z))
		w.denies("P15.5, 9", api.Outcome{Err: api.ErrStray, At: lb, Place: fileAt + 32 - n}, lb)
		// And with what stands ahead.
		ahead := strings.Repeat("z", 32-n)
		z = digited(ahead+part(A)[:n], "z")
		w = newWorld(t, holding(la, "hi"), holding(z, "z"), holding(lb, ahead+part(la)+" "+part(z), la, z))
		w.denies("P15.5, 9", api.Outcome{Err: api.ErrStray, At: lb, Place: fileAt}, lb)
	}
}
