package wire

import (
	"bytes"
	"slices"
	"strings"
	"testing"

	"graft/api"
	"graft/ark"
	"graft/digest"
	"graft/label"
	"graft/modulo"
)

// twins is two stores that were made alike: a session is played on the one, the engine's calls are made on the other.
type twins struct {
	t              *testing.T
	played, called *world
	s              *Session
}

const wide = 1 << 25 // a limit that no store here meets

// twinsOf is two stores with small guests of these labels, and with what make does.
func twinsOf(t *testing.T, make func(w *world), labels ...api.Label) *twins {
	t.Helper()
	w := &twins{t: t, played: newWorld(t, wide), called: newWorld(t, wide)}
	var guests []api.Object
	for _, l := range labels {
		guests = append(guests, holding(l, "guest"))
	}
	for _, x := range []*world{w.played, w.called} {
		x.lay(guests...)
		make(x)
	}
	w.s = greeted(t, w.played)
	return w
}

// full is the twins once more, with no room left in their journals.
func (w *twins) full() *twins {
	w.t.Helper()
	limit := max(w.played.e.Shelf().Stat().Journal, api.MinRoom)
	out := &twins{t: w.t, played: worldOf(w.t, w.played.v.Disk(), limit), called: worldOf(w.t, w.called.v.Disk(), limit)}
	out.s = greeted(w.t, out.played)
	return out
}

// says holds that a request has this answer; that it is the one that the calls say; and that both stores stay alike.
func (w *twins) says(what string, a api.Ask, want api.Say) {
	w.t.Helper()
	got := asks(w.t, w.s, a)
	if showSay(got) != showSay(want) {
		w.t.Errorf("P16.5: %s: %s, want %s", what, showSay(got), showSay(want))
	}
	if said := plainAnswer(w.called.e, a); showSay(got) != showSay(said) {
		w.t.Errorf("P16.5: %s: %s, by the calls %s", what, showSay(got), showSay(said))
	}
	if w.played.state() != w.called.state() || !w.s.Open() {
		w.t.Errorf("P16.5: %s: the stores differ, or the session is closed", what)
	}
}

// refuses holds likewise that nothing is done.
func (w *twins) refuses(what string, a api.Ask, want api.Say) {
	w.t.Helper()
	before := w.played.state()
	w.says(what, a, want)
	if w.played.state() != before {
		w.t.Errorf("P16.5: %s: something was done", what)
	}
}

func importing(chunk int, objects ...api.Object) api.Ask {
	return api.Ask{Op: api.OpImport, Data: []byte(streamOf(objects...)), Number: chunk}
}

// atOther is what is said of an outcome with these two labels.
func atOther(e api.Errno, place int, at, other api.Label) api.Say {
	return api.Say{Err: e, Number: place, Text: textOf(at) + " " + textOf(other)}
}

var none api.Label

func TestOpImport(t *testing.T) {
	w := twinsOf(t, func(w *world) { w.lay(holding(lc, "c")) })
	w.refuses("no objects", importing(1), api.Say{})
	w.refuses("chunk 0", importing(0, holding(la, "a")), api.Say{Err: api.ErrArg})
	w.refuses("chunk below 0", importing(-1, holding(la, "a")), api.Say{Err: api.ErrArg})
	w.refuses("dangling", importing(3, holding(lc, "c"), holding(la, "a", lb, lc)), atOther(api.ErrDangling, 1, la, lb))
	for ca := api.ByText; ca <= api.ByFlat; ca++ {
		own := holding(lb, "b")
		own.Ca = ca
		w.refuses("not a guest", importing(3, own), atOther(api.ErrObject, 0, lb, none))
		w.refuses("one isn't a guest", importing(3, holding(la, "a"), own), atOther(api.ErrObject, 1, lb, none))
	}
	other := holding(api.Label{Hash: lc.Hash, Name: "z"}, "c")
	w.refuses("a clash", importing(3, holding(la, "a"), other), atOther(api.ErrClash, 1, other.Label, none))
	w.refuses("another content", importing(3, holding(lc, "d")), atOther(api.ErrThere, 0, lc, none))
	w.full().refuses("no room", importing(3, holding(la, "a"), holding(lb, "b")), api.Say{Err: api.ErrFull, Number: 2})
	w.says("two, one of them twice", importing(3, holding(la, "a", la, lb), holding(lb, "b"), holding(lb, "b")), api.Say{})
	if s := w.played.e.Shelf(); !slices.Equal(s.List(), []api.Label{la, lb, lc}) {
		t.Errorf("P16.5: %s", showLabels(s.List()))
	}
	w.refuses("again", importing(1<<40, holding(lb, "b"), holding(la, "a", la, lb)), api.Say{})
}

// What the Intake refuses is told with its place, whatever the chunk, and nothing is done.
func TestOpImportRefused(t *testing.T) {
	w := twinsOf(t, func(*world) {})
	stream := streamOf(holding(la, "a"))
	for _, chunk := range []int{1, 0, -1, 100} {
		for what, x := range map[string]known{
			"no bytes": {"", api.ErrShort, 0}, "cut short": {stream[:20], api.ErrShort, 20}, "without its end": {stream[:len(stream)-25], api.ErrShort, len(stream) - 25}, "without its last byte": {stream[:len(stream)-1], api.ErrShort, len(stream) - 1},
			"magic": {"graftexx" + stream[8:], api.ErrMagic, 7}, "a head's sum": {stream[:8] + "\x02" + stream[9:], api.ErrSum, 8}, "a record": {"graftexp" + record(3, ""), api.ErrRecord, 8}, "an object": {"graftexp" + record(1, "x"), api.ErrObject, 8},
			"a body's sum": {stream[:30] + "?" + stream[31:], api.ErrSum, len(stream) - 29}, "the end": {stream[:len(stream)-25] + record(2, number(2)), api.ErrObject, len(stream) - 25}, "a byte behind": {stream + "x", api.ErrTail, len(stream)},
		} {
			w.refuses(what, api.Ask{Op: api.OpImport, Data: []byte(x.data), Number: chunk}, api.Say{Err: x.e, Number: x.at})
		}
	}
}

func TestOpText(t *testing.T) {
	own, _ := label.Text("own", []byte("own"), nil)
	clash, _ := label.Text("clash", nil, nil)
	there, _ := label.Text("there", nil, nil)
	w := twinsOf(t, func(w *world) {
		w.text("own", "own")
		w.lay(holding(lc, "c"), holding(api.Label{Hash: clash.Hash, Name: "z"}, ""), holding(there, ""))
	})
	data := []byte("see " + digits(own) + digits(lc))
	called := func(refs ...api.Label) api.Label {
		l, e := label.Text("t", data, refs)
		if e != api.OK {
			t.Fatalf("P2.12: %d", e)
		}
		return l
	}
	asking := func(name string, refs ...api.Label) api.Ask {
		return api.Ask{Op: api.OpText, Text: name, Data: data, Labels: refs}
	}
	w.refuses("no name", asking(""), api.Say{Err: api.ErrName})
	w.refuses("no such name", asking("a b", own), api.Say{Err: api.ErrName})
	w.refuses("a long name", asking(strings.Repeat("n", 212), own), api.Say{Err: api.ErrLong})
	w.refuses("257 references", asking("t", many(257, "n")...), api.Say{Err: api.ErrLong})
	w.refuses("a guest", asking("t", own, lc), atOther(api.ErrDangling, 0, called(own, lc), lc))
	w.refuses("nothing there", asking("t", lb), atOther(api.ErrDangling, 0, called(lb), lb))
	scan := asking("t", own)
	scan.Data = []byte("t")
	at, _ := label.Text("t", scan.Data, []api.Label{own})
	w.refuses("not mentioned", scan, atOther(api.ErrScan, 0, at, own))
	large := api.Ask{Op: api.OpText, Text: "large", Data: bytes.Repeat([]byte("l"), api.MaxWord)}
	at, _ = label.Text("large", large.Data, nil)
	w.refuses("large", large, atOther(api.ErrLarge, 0, at, none))
	w.refuses("a clash", api.Ask{Op: api.OpText, Text: "clash"}, atOther(api.ErrClash, 0, clash, api.Label{Hash: clash.Hash, Name: "z"}))
	w.refuses("a guest of that label", api.Ask{Op: api.OpText, Text: "there"}, atOther(api.ErrThere, 0, there, there))
	w.full().refuses("no room", asking("t", own), atOther(api.ErrFull, 0, called(own), none))
	w.says("a text", asking("t", own, own), api.Say{Labels: []api.Label{called(own)}})
	w.refuses("again", asking("t", own), api.Say{Labels: []api.Label{called(own)}})
	w.says("an empty one", api.Ask{Op: api.OpText, Text: "e"}, api.Say{Labels: []api.Label{w.played.text("e", "")}})
}

func TestOpTree(t *testing.T) {
	sourceOf := func(name string, data []byte) api.Label {
		l, e := label.Source(name, digest.Of(data), nil, false)
		if e != api.OK {
			t.Fatalf("P2.12: %d", e)
		}
		return l
	}
	data := arkOf(api.Node{Kind: api.KindDir, List: []api.Entry{{Name: "a", Node: fileNode("x")}, {Name: "b", Node: api.Node{Kind: api.KindLink, Link: "a"}}}})
	clash, there := sourceOf("clash", data), sourceOf("there", data)
	w := twinsOf(t, func(w *world) {
		w.lay(holding(api.Label{Hash: clash.Hash, Name: "z"}, ""), holding(there, ""))
	})
	asking := func(name string, data []byte) api.Ask {
		return api.Ask{Op: api.OpTree, Text: name, Data: data}
	}
	for what, data := range map[string][]byte{
		"no bytes": nil, "cut short": data[:len(data)-1], "a byte behind": append(bytes.Clone(data), 0), "no token": []byte(word("graft-ark-2")), "padding": append([]byte(word("graft-ark-1")[:19]), 1),
		"large": append([]byte(word("graft-ark-1")+word("(")+word("type")+word("regular")+word("contents")), number(api.MaxArk)...), "order": append([]byte(word("graft-ark-1")+word("(")+word("type")), number(9)...),
	} {
		_, e, at := ark.Parse(data)
		if e == api.OK {
			t.Fatalf("P3.4: %s", what)
		}
		for _, name := range []string{"t", ""} {
			w.refuses(what, asking(name, data), api.Say{Err: e, Number: at})
		}
	}
	w.refuses("no name", asking("", data), api.Say{Err: api.ErrName})
	w.refuses("a long name", asking(strings.Repeat("n", 212), data), api.Say{Err: api.ErrLong})
	w.refuses("a clash", asking("clash", data), atOther(api.ErrClash, 0, clash, api.Label{Hash: clash.Hash, Name: "z"}))
	w.refuses("a guest of that label", asking("there", data), atOther(api.ErrThere, 0, there, there))
	w.full().refuses("no room", asking("t", data), atOther(api.ErrFull, 0, sourceOf("t", data), none))
	w.says("a tree", asking("t", data), api.Say{Labels: []api.Label{sourceOf("t", data)}})
	w.refuses("again", asking("t", data), api.Say{Labels: []api.Label{sourceOf("t", data)}})
	w.says("a great one", asking("g", fileOf(api.MaxArk)), api.Say{Labels: []api.Label{sourceOf("g", fileOf(api.MaxArk))}})
}

func rewriting(chunk int, roots ...api.Label) api.Ask {
	return api.Ask{Op: api.OpRewrite, Labels: roots, Number: chunk}
}

func TestOpRewrite(t *testing.T) {
	ring, twin := named(5, "x"), named(6, "x")
	inName := named(7, "i")
	entry := arkOf(api.Node{Kind: api.KindDir, List: []api.Entry{{Name: digits(lb), Node: fileNode("")}}})
	w := twinsOf(t, func(w *world) {
		w.lay(holding(la, digits(lb)+digits(la), la, lb), holding(lb, "b"), holding(lc, "c", lb))
		w.lay(holding(ring, digits(twin), twin), holding(twin, digits(ring), ring))
		w.lay(api.Object{Label: inName, Ark: entry, Refs: []api.Label{lb}})
	})
	no := named(9, "no")
	w.refuses("no roots", rewriting(1), api.Say{})
	w.refuses("chunk 0", rewriting(0, la, no), api.Say{Err: api.ErrArg})
	w.refuses("no roots, chunk below 0", rewriting(-1), api.Say{Err: api.ErrArg})
	w.refuses("nothing there", rewriting(1, la, lb, no, no), atOther(api.ErrNone, 2, no, none))
	w.refuses("scan", rewriting(1, la, lc), atOther(api.ErrScan, 0, lc, lb))
	w.refuses("in a name", rewriting(1, inName), atOther(api.ErrInName, 136, inName, none))
	w.refuses("twins", rewriting(1, twin), atOther(api.ErrTwins, 0, ring, twin))
	w.full().refuses("no room", rewriting(1, la), api.Say{Err: api.ErrFull})
	out := w.called.e.Rewrite([]api.Label{la}, 1)
	w.called = worldOf(t, w.played.v.Disk(), wide) // the store ahead of that
	if out.Err != api.OK || len(out.Map) != 2 {
		t.Fatalf("P15.5: %d", out.Err)
	}
	A, B := out.Map[0].New, out.Map[1].New
	if got := asks(t, w.s, rewriting(7, lb, la)); showSay(got) != showSay(api.Say{Labels: []api.Label{la, A, lb, B}}) {
		t.Errorf("P16.5: %s, want %s", showSay(got), showLabels([]api.Label{la, A, lb, B}))
	}
	w.called.rename(la)
	w.called, w.played = worldOf(t, w.called.v.Disk(), wide), worldOf(t, w.played.v.Disk(), wide)
	w.s = greeted(t, w.played)
	first, second := label.Sort([]api.Label{A, B})[0], label.Sort([]api.Label{A, B})[1]
	w.refuses("own ones", rewriting(3, A), api.Say{Labels: []api.Label{first, first, second, second}})
	// The table says another thing.
	for _, x := range []*world{w.played, w.called} {
		if e, _ := x.e.Shelf().Apply([]api.Step{{Kind: api.StepDrop, Label: la}}); e != api.OK {
			t.Fatalf("P12.1: %d", e)
		}
		x.lay(holding(la, "another"))
	}
	w.refuses("the table", rewriting(3, la), atOther(api.ErrTable, 0, la, A))
}

// alone is what a guest without mentions comes to.
func alone(t *testing.T, name string, data []byte) (api.Label, []byte) {
	t.Helper()
	n, e, _ := modulo.Group([]api.Member{{Name: name, Ark: data}})
	if e != api.OK {
		t.Fatalf("P7.7: %d", e)
	}
	return n.Labels[0], n.Text
}

func fingerOf(t *testing.T, name string, data []byte) string {
	t.Helper()
	n, _, _ := modulo.Group([]api.Member{{Name: name, Ark: data}})
	text, e := label.Say(api.Finger{Kind: api.FingerMember, Inner: n.Sum, Name: name})
	if e != api.OK {
		t.Fatalf("P2.9: %d", e)
	}
	return text
}

// The two texts of a clash are two words; the second may be empty.
func TestClashTexts(t *testing.T) {
	data := file("hi")
	A, text := alone(t, "a", data)
	want := atOther(api.ErrClash, 0, la, A)
	w := twinsOf(t, func(w *world) { w.lay(holding(la, "hi"), holding(A, "another")) })
	want.Data = []byte(word(fingerOf(t, "a", data)) + word(""))
	w.refuses("a guest of that label", rewriting(3, la), want)
	w = twinsOf(t, func(w *world) {
		w.lay(holding(la, "hi"), api.Object{Label: A, Ark: data, Refs: []api.Label{A}, Ca: api.ByGroup})
	})
	want.Data = []byte(word(string(text)) + word(string(text)))
	w.refuses("an own one of that label", rewriting(3, la), want)
}

// Two words that have just as many bytes as an answer's Data may have are said, and no more than these.
func TestGreatClashTexts(t *testing.T) {
	size := api.MaxArk
	for {
		if _, text := alone(t, "a", fileOf(size)); len(word(string(text))) == api.MaxWord/2 {
			break
		}
		size -= 8
	}
	for _, more := range []int{0, 8} {
		data := fileOf(size + more)
		A, text := alone(t, "a", data)
		w := twinsOf(t, func(w *world) {
			w.lay(api.Object{Label: la, Ark: data}, api.Object{Label: A, Ark: data, Refs: []api.Label{A}, Ca: api.ByGroup})
		})
		want := atOther(api.ErrClash, 0, la, A)
		if more == 0 {
			want.Data = []byte(word(string(text)) + word(string(text)))
		}
		w.refuses("an own one of that label", rewriting(1<<20, la), want)
	}
}

// Texts of an outcome of all lengths, and labels that are printable, not printable, and empty.
func TestSayOutcome(t *testing.T) {
	unprintable, long := api.Label{Name: "a b"}, api.Label{Hash: la.Hash, Name: strings.Repeat("n", 212)}
	for _, x := range []struct {
		at, other api.Label
		want      string
	}{
		{none, none, ""}, {la, none, textOf(la) + " "}, {none, la, " " + textOf(la)}, {la, lb, textOf(la) + " " + textOf(lb)}, {la, la, textOf(la) + " " + textOf(la)}, {longest, longest, textOf(longest) + " " + textOf(longest)},
		{unprintable, none, ""}, {unprintable, long, ""}, {unprintable, lb, " " + textOf(lb)}, {la, unprintable, textOf(la) + " "}, {long, lb, " " + textOf(lb)},
	} {
		got := sayOutcome(api.Outcome{Err: api.ErrWrong, At: x.at, Other: x.other, Place: 7}, la, lb)
		if showSay(got) != showSay(api.Say{Err: api.ErrWrong, Text: x.want, Number: 7}) {
			t.Errorf("P16.5: %s, want the text %q", showSay(got), x.want)
		}
	}
	for _, x := range []struct {
		first, second string
		want          string
	}{
		{"", "", ""}, {"", "second", ""}, {"first", "", word("first") + word("")}, {"12345678", "second", word("12345678") + word("second")},
		{strings.Repeat("f", api.MaxWord-16), "", word(strings.Repeat("f", api.MaxWord-16)) + word("")}, {strings.Repeat("f", api.MaxWord-15), "", ""}, {"f", strings.Repeat("s", api.MaxWord-24), word("f") + word(strings.Repeat("s", api.MaxWord-24))},
		{"f", strings.Repeat("s", api.MaxWord-23), ""}, {"f", strings.Repeat("s", api.MaxWord), ""}, {strings.Repeat("f", 3*api.MaxWord), "s", ""},
	} {
		got := sayOutcome(api.Outcome{Err: api.ErrClash, At: la, First: []byte(x.first), Second: []byte(x.second)})
		if showSay(got) != showSay(api.Say{Err: api.ErrClash, Text: textOf(la) + " ", Data: []byte(x.want)}) {
			t.Errorf("P16.5: %s, want the data %s", showSay(got), brief(x.want))
		}
	}
	got := sayOutcome(api.Outcome{At: la, Other: lb}, lb, unprintable, la, none, long, lb)
	if showSay(got) != showSay(api.Say{Labels: []api.Label{lb, la, lb}}) {
		t.Errorf("P16.5: %s", showSay(got))
	}
}

// A rewrite's answer has as many labels as one may have, and no closure has more.
func TestGreatRewrite(t *testing.T) {
	labels := many(api.MaxClosure, "n")
	w := newWorld(t, wide)
	var objects []api.Object
	for _, l := range labels {
		objects = append(objects, holding(l, digits(l)[:8]))
	}
	w.lay(objects...)
	got := asks(t, greeted(t, w), rewriting(50, labels...))
	if got.Err != api.OK || len(got.Labels) != api.MaxObjects {
		t.Fatalf("P16.5: %d, %d labels", got.Err, len(got.Labels))
	}
	for i, l := range labels {
		if to, e := w.e.Lookup(l); e != api.OK || got.Labels[2*i] != l || got.Labels[2*i+1] != to {
			t.Fatalf("P16.5: %s was renamed to %s, want %s", textOf(l), textOf(got.Labels[2*i+1]), textOf(to))
		}
	}
	labels = append(labels, la)
	more := twinsOf(t, func(w *world) { w.lay(append(objects, holding(la, "a"))...) })
	more.refuses("one more", rewriting(50, labels...), api.Say{Err: api.ErrMany, Number: api.MaxClosure + 1})
}

// No label, and two, are refused ahead of all else.
func TestOneLabel(t *testing.T) {
	w := twinsOf(t, func(w *world) { w.lay(holding(la, "a")) })
	for _, op := range []int{api.OpLookup, api.OpRead, api.OpVerify} {
		for _, labels := range [][]api.Label{nil, {la, la}, {la, lb}, {lb, lc, la}, many(4096, "n")} {
			w.refuses("not one label", api.Ask{Op: op, Labels: labels}, api.Say{Err: api.ErrArg})
			if op == api.OpVerify {
				w.refuses("not one label", api.Ask{Op: op, Labels: labels, Number: 5}, api.Say{Err: api.ErrArg})
			}
		}
	}
}

func TestOpLookup(t *testing.T) {
	var own, renamed api.Label
	w := twinsOf(t, func(w *world) {
		w.lay(holding(la, "a"), holding(lb, "b"))
		own, renamed = w.text("own", "own"), w.rename(la)
	})
	looking := func(l api.Label) api.Ask { return api.Ask{Op: api.OpLookup, Labels: []api.Label{l}} }
	w.refuses("an own one", looking(own), api.Say{Labels: []api.Label{own}})
	w.refuses("a guest that was renamed", looking(la), api.Say{Labels: []api.Label{renamed}})
	w.refuses("what it was renamed to", looking(renamed), api.Say{Labels: []api.Label{renamed}})
	w.refuses("a guest that wasn't", looking(lb), api.Say{Err: api.ErrNone})
	w.refuses("nothing there", looking(lc), api.Say{Err: api.ErrNone})
}

func TestOpRead(t *testing.T) {
	guest := api.Object{Label: la, Refs: []api.Label{la, lb}, Ark: file("a"), Maker: textOf(lc)}
	bare := holding(lb, "b")
	big := api.Object{Label: lc, Ark: fileOf(api.MaxArk), Ca: api.ByFlat}
	all := many(256, "n")
	crowd := api.Object{Label: longest, Refs: all, Ark: file("x"), Ca: api.ByText}
	w := twinsOf(t, func(w *world) {
		w.lay(guest, bare, big, crowd)
	}, all...)
	reading := func(l api.Label) api.Ask { return api.Ask{Op: api.OpRead, Labels: []api.Label{l}} }
	w.refuses("a guest", reading(la), api.Say{Labels: []api.Label{la, la, lb}, Text: textOf(lc), Data: guest.Ark})
	w.refuses("a bare one", reading(lb), api.Say{Labels: []api.Label{lb}, Data: bare.Ark})
	w.refuses("a great one", reading(lc), api.Say{Labels: []api.Label{lc}, Data: big.Ark, Number: int(api.ByFlat)})
	w.refuses("many references", reading(longest), api.Say{Labels: append([]api.Label{longest}, all...), Data: crowd.Ark, Number: int(api.ByText)})
	w.refuses("nothing there", reading(named(9, "no")), api.Say{Err: api.ErrNone})
	w.refuses("another name", reading(api.Label{Hash: la.Hash, Name: "z"}), api.Say{Err: api.ErrNone})
}

func TestOpVerify(t *testing.T) {
	var own, member api.Label
	wrong := api.Object{Label: lc, Ark: file("c"), Ca: api.ByText}
	text := "see " + digits(la)
	toGuest, _ := label.Text("g", []byte(text), []api.Label{la})
	w := twinsOf(t, func(w *world) {
		w.lay(holding(la, "a"), wrong, api.Object{Label: toGuest, Ark: file(text), Refs: []api.Label{la}, Ca: api.ByText})
		own, member = w.text("own", "own"), w.rename(la)
	})
	verifying := func(l api.Label, chunk int) api.Ask {
		return api.Ask{Op: api.OpVerify, Labels: []api.Label{l}, Number: chunk}
	}
	for _, l := range []api.Label{la, own, member} {
		w.refuses("right", verifying(l, 3), api.Say{})
		w.refuses("chunk 0", verifying(l, 0), api.Say{Err: api.ErrArg})
	}
	w.refuses("chunk below 0, nothing there", verifying(lb, -1), api.Say{Err: api.ErrArg})
	w.refuses("nothing there", verifying(lb, 1), api.Say{Err: api.ErrNone})
	w.refuses("wrong", verifying(lc, 1), atOther(api.ErrWrong, 0, lc, none))
	w.refuses("it refers to a guest", verifying(toGuest, 1), atOther(api.ErrWrong, 0, toGuest, la))
}

func TestOpList(t *testing.T) {
	w := twinsOf(t, func(*world) {})
	w.refuses("nothing", api.Ask{Op: api.OpList}, api.Say{})
	w = twinsOf(t, func(w *world) { w.lay(holding(lc, "c"), holding(la, "a"), holding(lb, "b", la)) })
	w.refuses("three", api.Ask{Op: api.OpList}, api.Say{Labels: []api.Label{la, lb, lc}})
	all := many(api.MaxObjects, longest.Name)
	w = twinsOf(t, func(*world) {}, all...)
	w.refuses("as many as there can be", api.Ask{Op: api.OpList}, api.Say{Labels: all})
}

func exporting(roots ...api.Label) api.Ask { return api.Ask{Op: api.OpExport, Labels: roots} }

func TestOpExport(t *testing.T) {
	a, b, c := holding(la, "a", lb), holding(lb, "b", la), holding(lc, "c", la)
	c.Maker, c.Ca = textOf(longest), api.ByGroup
	alone := holding(named(4, "d"), "d")
	w := twinsOf(t, func(w *world) { w.lay(a, b, c, alone) })
	stream := func(objects ...api.Object) api.Say { return api.Say{Data: []byte(streamOf(objects...))} }
	no := named(9, "no")
	w.refuses("no roots", exporting(), stream())
	w.refuses("one alone", exporting(alone.Label), stream(alone))
	w.refuses("a ring", exporting(lb), stream(a, b))
	w.refuses("roots in no order, twice", exporting(alone.Label, lc, lc, la), stream(a, b, c, alone))
	w.refuses("nothing there", exporting(no), api.Say{Err: api.ErrNone})
	w.refuses("a later root", exporting(la, lc, no, no), api.Say{Err: api.ErrNone, Number: 2})
	w.refuses("another name", exporting(la, api.Label{Hash: lb.Hash, Name: "z"}), api.Say{Err: api.ErrNone, Number: 1})
}

// A stream of just as many bytes as an answer's Data may have is said; a longer one is refused.
func TestGreatExport(t *testing.T) {
	labels := many(7, "n")
	objects := make([]api.Object, 7) // 33 bytes, and 17 for each of seven, are a multiple of eight
	for i, l := range labels {
		objects[i] = holding(l, "x")
	}
	objects[0].Ark = fileOf(api.MaxArk)
	objects[3].Ark = fileOf(api.MaxWord - len(streamOf(objects...)) + len(objects[3].Ark))
	w := twinsOf(t, func(w *world) {
		w.lay(objects...)
		// The first ark of the greatest size, under all other labels that a shelf has room for.
		for chunk := range slices.Chunk(manyFrom(7, api.MaxObjects-7, "more"), 1000) {
			var more []api.Object
			for _, l := range chunk {
				more = append(more, api.Object{Label: l, Ark: objects[0].Ark})
			}
			w.lay(more...)
		}
	})
	want := streamOf(objects...)
	if len(want) != api.MaxWord {
		t.Fatalf("%d bytes", len(want))
	}
	w.refuses("just as many", exporting(labels...), api.Say{Data: []byte(want)})
	if got := asks(t, w.s, exporting(w.played.e.Shelf().List()...)); showSay(got) != showSay(api.Say{Err: api.ErrLong}) {
		t.Errorf("P16.5: %s", showSay(got))
	}
	objects[3].Ark = fileOf(len(objects[3].Ark) + 8)
	w = twinsOf(t, func(w *world) { w.lay(objects...) })
	w.refuses("more", exporting(labels...), api.Say{Err: api.ErrLong})
	w.refuses("more, and a root that isn't there", exporting(append(slices.Clone(labels), la)...), api.Say{Err: api.ErrNone, Number: 7})
	objects[3].Ark = file("x")
	w = twinsOf(t, func(w *world) { w.lay(objects...) })
	w.refuses("far fewer", exporting(labels...), api.Say{Data: []byte(streamOf(objects...))})
}

// What a session exports another one imports.
func TestExportImport(t *testing.T) {
	from, to := newWorld(t, wide), newWorld(t, wide)
	objects := []api.Object{holding(la, digits(lb)+digits(la), la, lb), {Label: lb, Refs: []api.Label{lc}, Ark: file("b"), Maker: textOf(la)}, holding(lc, "c")}
	from.lay(objects...)
	out := asks(t, greeted(t, from), exporting(la))
	s := greeted(t, to)
	if got := asks(t, s, api.Ask{Op: api.OpImport, Data: out.Data, Number: 10}); !emptySay(got) {
		t.Fatalf("P16.5: %s", showSay(got))
	}
	var there []api.Object
	for _, l := range to.e.Shelf().List() {
		o, _ := to.e.Read(l)
		there = append(there, o)
	}
	if showObjects(there) != showObjects(objects) {
		t.Errorf("W12: %s\nwant %s", showObjects(there), showObjects(objects))
	}
}
