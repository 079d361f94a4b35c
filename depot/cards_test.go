package depot

import (
	"bytes"
	"compress/gzip"
	"fmt"
	"slices"
	"strings"
	"testing"

	"graft/api"
	"graft/press"
)

// two is a that refers to b.
func two() []api.Object { return []api.Object{holds(la, "to "+part(lb), lb), holds(lb, "hi")} }

// zipped is bytes packed by another program.
func zipped(data []byte, level int, name string) []byte {
	var out bytes.Buffer
	w, _ := gzip.NewWriterLevel(&out, level)
	w.Name = name
	w.Write(data)
	w.Close()
	return out.Bytes()
}

// lying is a depot in which b's card says what is so of a file of this name that is packed by gzip.
func lying(files []api.DepotFile, url string, file, archive []byte) []api.DepotFile {
	return with(turned(files, lb, func(c *api.Card) {
		c.Url, c.Press, c.FileSum, c.FileSize = url, "gzip", sumOf(file), len(file)
		c.ArkSum, c.ArkSize = sumOf(archive), len(archive)
	}), url, file)
}

// spoilt is what may be wrong with b's card, or with its file.
type spoilt struct {
	what  string
	files []api.DepotFile
	e     api.Errno // of Pull
	check api.Errno
	name  string // that Check names
	lacks bool   // no card is good for b
}

// spoiltCards is all that may be wrong with b's card. (a's card comes ahead of it, and there is no good card then for what a refers to.)
func spoiltCards() []spoilt {
	right := depotOf(two()...)
	name := cardOf(lb)
	text := dataOf(right, name)
	out := []spoilt{{"no card", without(right, name), api.ErrNone, api.ErrNone, cardOf(la), true}}
	add := func(what string, data []byte) {
		out = append(out, spoilt{what, with(right, name, data), api.ErrDepot, api.ErrNone, cardOf(la), true})
	}
	add("a's card", dataOf(right, cardOf(la)))
	add("a card of another name", bytes.Replace(text, []byte("-b\n"), []byte("-c\n"), 1))
	add("a card of another hash part", bytes.Replace(text, []byte(part(lb)), []byte(part(lc)), 1))
	add("depot.card", ownCard.Data)
	add("an archive", file("hi"))
	for _, data := range []string{"", string(text[1:]), string(text[:len(text)-1]), string(text) + "\n", string(text) + "x", strings.Replace(string(text), "Press: none", "Press: zip", 1), strings.Replace(string(text), "Refs:", "Refs: x", 1)} {
		add(fmt.Sprintf("%q", data), []byte(data))
	}
	add("a long card", append(bytes.Clone(text), bytes.Repeat([]byte("x"), api.MaxCard)...))
	return out
}

// spoiltFiles is all that may be wrong with the file of b's card.
func spoiltFiles() []spoilt {
	right, gz := depotOf(two()...), packedBy("gzip", two()...)
	url, zip := cardIn(right, lb).Url, cardIn(gz, lb).Url
	data := file("hi")
	var out []spoilt
	add := func(what string, files []api.DepotFile, e api.Errno) {
		out = append(out, spoilt{what, files, e, e, cardOf(lb), false})
	}
	add("no file", without(right, url), api.ErrNone)
	add("no packed file", without(gz, zip), api.ErrNone)
	add("a longer file", with(right, url, append(bytes.Clone(data), 0)), api.ErrDiffer)
	add("a shorter file", with(right, url, data[:len(data)-1]), api.ErrDiffer)
	add("an empty file", with(right, url, nil), api.ErrDiffer)
	add("another archive", with(right, url, file("ho")), api.ErrDiffer)
	add("the packed archive in its place", with(right, url, press.Gzip(data)), api.ErrDiffer)
	add("the archive in the place of the packed one", with(gz, zip, data), api.ErrDiffer)
	add("another packed file", with(gz, zip, press.Gzip(file("ho"))), api.ErrDiffer)
	add("packed by another program", with(gz, zip, zipped(data, 9, "")), api.ErrDiffer)
	packed := press.Gzip(data)
	for what, spoilt := range map[string][]byte{
		"no gzip": []byte("hi"), "empty": {}, "cut short": packed[:len(packed)-1], "with something behind it": append(bytes.Clone(packed), 'x'), "with a wrong sum": spoil(packed, len(packed)-8),
		"with a wrong length": spoil(packed, len(packed)-4), "with wrong flags": spoil(packed, 3), "with a wrong block": spoil(packed, 10),
	} {
		add("gzip that is "+what, lying(gz, "ark/x.gz", spoilt, data), api.ErrDiffer)
	}
	add("gzip that holds more", lying(gz, "ark/x.gz", press.Gzip(append(bytes.Clone(data), 0)), data), api.ErrDiffer)
	add("gzip that holds much more", lying(gz, "ark/x.gz", press.Gzip(make([]byte, 1<<20)), data), api.ErrDiffer)
	add("gzip that holds less", lying(gz, "ark/x.gz", press.Gzip(data[:100]), data), api.ErrDiffer)
	add("gzip that holds nothing", lying(gz, "ark/x.gz", press.Gzip(nil), data), api.ErrDiffer)
	add("gzip that holds another archive", lying(gz, "ark/x.gz", press.Gzip(file("ho")), data), api.ErrDiffer)
	for what, no := range map[string][]byte{"nothing": {}, "a text": []byte("hi"), "half an archive": data[:60], "something behind an archive": append(bytes.Clone(data), 0), "wrong padding": spoil(data, 19)} {
		add("what holds "+what, lying(gz, "ark/x.gz", press.Gzip(no), no), api.ErrArk)
		add("what is "+what, with(turned(right, lb, func(c *api.Card) {
			c.Url, c.FileSum, c.FileSize, c.ArkSum, c.ArkSize = "ark/x", sumOf(no), len(no), sumOf(no), len(no)
		}), "ark/x", no), api.ErrArk)
	}
	// The archive's file is told of by nobody, where a card tells of another one.
	for i, x := range out {
		for _, name := range []string{url, zip} {
			if strings.Contains(x.what, "gzip that") || strings.Contains(x.what, "what ") {
				out[i].files = without(out[i].files, name)
			}
		}
	}
	return out
}

// spoil is bytes one of which is turned.
func spoil(data []byte, at int) []byte {
	out := bytes.Clone(data)
	out[at] ^= 0x40
	return out
}

// P17.2, P17.3: what lacks, and what is wrong, as each call tells it.
func TestSpoilt(t *testing.T) {
	source := newBoth(t, two()...)
	for _, x := range slices.Concat(spoiltCards(), spoiltFiles()) {
		newBoth(t).refusesPull(x.what, x.files, []api.Label{la}, x.e, lb)
		newBoth(t).refusesPull(x.what, x.files, []api.Label{lb, lb}, x.e, lb)
		newBoth(t, holds(lb, "else")).pulls(x.what, x.files, []api.Label{la}, []api.Label{la})
		finds(t, x.what, x.files, x.check, x.name)
		got, e := lacked(t, x.files, la)
		if e != api.OK || len(got) == 1 != x.lacks || x.lacks && got[0] != baseOf(lb) {
			t.Errorf("P17.8: %s: %q, %d", x.what, got, e)
		}
		pruned(t, x.files, la)
		if x.e == api.ErrNone && x.lacks {
			source.pushes(x.files, []api.Label{la}, "none")
		} else {
			source.refusesPush(x.what, x.files, []api.Label{la}, nil, "none", api.ErrDiffer, lb)
			source.refusesPush(x.what, x.files, []api.Label{la}, []api.Key{home}, "gzip", api.ErrDiffer, lb)
		}
	}
}

// P17.3: two things that are wrong at once.
func TestSpoiltTwice(t *testing.T) {
	right := depotOf(two()...)
	no := []byte("no archive")
	// Another sum, and no archive; gzip that is spoilt, and another sum.
	both := with(turned(right, lb, func(c *api.Card) {
		c.Url, c.FileSum, c.FileSize, c.ArkSum, c.ArkSize = "x", sumOf(no), len(no), sumOf(no), len(no)
	}), "x", []byte("no archivE"))
	newBoth(t).refusesPull("another sum and no archive", both, []api.Label{lb}, api.ErrDiffer, lb)
	newBoth(t).refusesPull("gzip that is spoilt and another sum", with(lying(right, "x", no, no), "x", no[1:]), []api.Label{lb}, api.ErrDiffer, lb)
	// No mark, and no file.
	newBoth(t).refusesPull("no mark and no file", without(right, cardIn(right, lb).Url), []api.Label{lb}, api.ErrTrust, lb, home)
	newBoth(t).refusesPull("a card that is none, and no mark", with(right, cardOf(lb), nil), []api.Label{lb}, api.ErrDepot, lb, home)
	newBoth(t).refusesPull("no card, and no mark", without(right, cardOf(lb)), []api.Label{lb}, api.ErrNone, lb, home)
	finds(t, "no mark and no file", without(right, cardIn(right, lb).Url), api.ErrTrust, cardOf(la), home)
}

// P17.3: files that are good, whatever they are called, and however they were packed.
func TestGoodFiles(t *testing.T) {
	right := depotOf(two()...)
	data := file("hi")
	longest := strings.Repeat("u", 211) + "/" + strings.Repeat("v", 43)
	for what, packed := range map[string][]byte{
		"our own": press.Gzip(data), "another program's": zipped(data, 9, ""), "stored": zipped(data, 0, "name"), "two members": append(zipped(data[:50], 9, ""), press.Gzip(data[50:])...), "an empty member more": append(press.Gzip(nil), zipped(data, 1, "x")...),
	} {
		for _, url := range []string{"x", "ark/x.ark", "a/b/c", cardOf(ld), "card", longest, arkName(packed, ".ark.gz")} {
			files := without(lying(right, url, packed, data), cardIn(right, lb).Url)
			b := newBoth(t)
			b.pulls(what, files, []api.Label{la}, []api.Label{la, lb})
			if o, _ := b.s.Get(lb); showObject(o) != showObject(two()[1]) {
				t.Errorf("P17.4: %s: %s", what, showObject(o))
			}
			if url == cardOf(ld) {
				finds(t, what, files, api.ErrDepot, url)
			} else {
				finds(t, what, files, api.OK, "")
			}
			source := newBoth(t, two()...)
			if got := source.pushes(files, []api.Label{la}, "gzip"); showFiles(got) != showFiles(sortedFiles(files)) {
				t.Errorf("P17.5: %s: a card with another file has not stayed", what)
			}
			if got, _ := pruned(t, files, la); showFiles(got) != showFiles(sortedFiles(files)) {
				t.Errorf("P17.9: %s: %s", what, namesOf(got))
			}
		}
	}
	// One file of several cards, packed and not.
	shared := depotOf(holds(la, "x"), holds(lb, "x"), holds(lc, "x", la, lb))
	if len(shared) != 5 {
		t.Fatalf("%d files", len(shared))
	}
	newBoth(t).pulls("one archive", shared, []api.Label{lc}, []api.Label{la, lb, lc})
	finds(t, "one archive", shared, api.OK, "")
	// Of one file two cards may say unlike things, of which one is so.
	unlike := turned(shared, lb, func(c *api.Card) { c.FileSum, c.ArkSum = sumOf(nil), sumOf(nil) })
	newBoth(t).refusesPull("unlike things of one file", unlike, []api.Label{lc}, api.ErrDiffer, lb)
	newBoth(t).pulls("unlike things of one file", unlike, []api.Label{la}, []api.Label{la})
	packed := zipped(file("x"), 9, "")
	for _, x := range []struct {
		change func(c *api.Card)
		e      api.Errno
	}{
		{func(c *api.Card) {}, api.OK}, {func(c *api.Card) { c.Url = "no" }, api.ErrNone}, {func(c *api.Card) { c.FileSize++ }, api.ErrDiffer}, {func(c *api.Card) { c.ArkSize++ }, api.ErrDiffer}, {func(c *api.Card) { c.ArkSize-- }, api.ErrDiffer},
		{func(c *api.Card) { c.ArkSum = sumOf(nil) }, api.ErrDiffer}, {func(c *api.Card) { c.FileSum = sumOf(nil) }, api.ErrDiffer}, {func(c *api.Card) { c.Press, c.ArkSum, c.ArkSize = "none", c.FileSum, c.FileSize }, api.ErrArk},
	} {
		files := with(depotOf(holds(la, "x"), holds(lb, "x")), "zip", packed)
		for _, l := range []api.Label{la, lb} {
			files = turned(files, l, func(c *api.Card) {
				c.Url, c.Press, c.FileSum, c.FileSize = "zip", "gzip", sumOf(packed), len(packed)
				if l == lb {
					x.change(c)
				}
			})
		}
		want := api.Label{}
		if x.e != api.OK {
			want = lb
		}
		if _, e, l := newBoth(t).pull(files, []api.Label{la, lb}); e != x.e || l != want {
			t.Errorf("P17.3: two cards of one packed file: %d, %s, want %d", e, showLabel(l), x.e)
		}
	}
}

// P17.4: all that a card says is there in the object.
func TestObjects(t *testing.T) {
	ring := ownGroup(ringOf(3, byNumber)...)
	text := ownText("t", "text")
	for _, o := range slices.Concat(ring, []api.Object{text, ownText("r", "see", text.Label), ownFlat("f", "flat"), ownTree("d", dir(entry("x", program("y")))), madeBy(holds(la, "a"), named(9, "m.recipe")), madeBy(holds(lb, "b", la, lb, ring[0].Label), lb)}) {
		all := append(slices.Clone(ring), text, madeBy(holds(la, "a"), named(9, "m.recipe")), o)
		all = slices.CompactFunc(slices.SortedFunc(slices.Values(all), func(x, y api.Object) int { return strings.Compare(part(x.Label), part(y.Label)) }), func(x, y api.Object) bool { return x.Label == y.Label })
		for _, how := range []string{"none", "gzip"} {
			b := newBoth(t)
			if _, e, l := b.pull(packedBy(how, all...), []api.Label{o.Label}); e != api.OK {
				t.Fatalf("P17.4: %d, %s", e, showLabel(l))
			}
			if got, _ := b.s.Get(o.Label); showObject(got) != showObject(o) {
				t.Errorf("P17.4: %s, want %s", showObject(got), showObject(o))
			}
		}
	}
}
