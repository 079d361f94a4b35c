package wire

import (
	"fmt"
	"math/rand/v2"
	"slices"
	"testing"

	"graft/api"
	"graft/label"
)

// Scripts: requests by chance that go well or fail by what is on the shelf. They are asked of a session, in pieces, and done by calls
// on a second store; answers and journals must be the same.

type player struct {
	source  *rand.Rand
	called  *world
	streams []string // what was exported so far
}

// someLabel is one on the shelf, mostly.
func (p *player) someLabel() api.Label {
	list := p.called.e.Shelf().List()
	if len(list) == 0 || p.source.IntN(12) == 0 {
		return named(byte(1+p.source.IntN(12)), pick(p.source, "x", "y"))
	}
	return pick(p.source, list...)
}

func (p *player) someLabels(most int) []api.Label {
	var out []api.Label
	for range p.source.IntN(most + 1) {
		out = append(out, p.someLabel())
	}
	return out
}

// guests is new objects that mention one another, and what is on the shelf.
func (p *player) guests() []api.Object {
	var labels []api.Label
	for range p.source.IntN(4) {
		labels = append(labels, named(byte(1+p.source.IntN(12)), pick(p.source, "x", "y")))
	}
	var out []api.Object
	for _, l := range labels {
		refs := p.someLabels(1)
		for range p.source.IntN(2) {
			refs = append(refs, pick(p.source, labels...))
		}
		text := pick(p.source, "", "text")
		for _, ref := range refs {
			text += digits(ref) + " "
		}
		if p.source.IntN(10) == 0 {
			refs = append(refs, p.someLabel())
		}
		o := holding(l, text, refs...)
		o.Maker = pick(p.source, "", "", textOf(lc))
		if p.source.IntN(12) == 0 {
			o.Ca = api.Ca(p.source.IntN(5))
		}
		out = append(out, o)
	}
	return out
}

func (p *player) stream() string {
	data := streamOf(p.guests()...)
	if len(p.streams) > 0 && p.source.IntN(4) == 0 {
		data = pick(p.source, p.streams...)
	}
	if p.source.IntN(10) == 0 {
		data = spoil(p.source, data)
	}
	return data
}

func (p *player) next() api.Ask {
	chunk := pick(p.source, 1, 3, 100, 100, 1<<40, 0)
	switch op := pick(p.source, 1, 2, 2, 2, 2, 3, 3, 4, 5, 5, 5, 6, 7, 8, 9, 10); op {
	case api.OpHello:
		return api.Ask{Op: op, Number: chunk}
	case api.OpImport:
		return api.Ask{Op: op, Data: []byte(p.stream()), Number: chunk}
	case api.OpText:
		refs := p.someLabels(2)
		text := "see "
		for _, l := range refs {
			text += digits(l)
		}
		return api.Ask{Op: op, Text: pick(p.source, "t", "u", ""), Data: []byte(text), Labels: refs}
	case api.OpTree:
		data := pick(p.source, file("tree"), file("x"), arkOf(api.Node{Kind: api.KindDir}), file("cut")[:90])
		return api.Ask{Op: op, Text: pick(p.source, "t", "v", "a b"), Data: data}
	case api.OpRewrite:
		return api.Ask{Op: op, Labels: p.someLabels(3), Number: chunk}
	case api.OpVerify:
		return api.Ask{Op: op, Labels: append(p.someLabels(1), p.someLabel()), Number: chunk}
	case api.OpList:
		return api.Ask{Op: op}
	case api.OpExport:
		return api.Ask{Op: op, Labels: p.someLabels(2)}
	default:
		return api.Ask{Op: op, Labels: append(p.someLabels(p.source.IntN(2)), p.someLabel())}
	}
}

func TestScripts(t *testing.T) {
	counts := map[string]int{}
	for seed := range 300 {
		source := sourceOf(uint64(1000 + seed))
		limit := pick(source, 1<<20, 1<<20, 1<<20, 4000)
		played, called := newWorld(t, limit), newWorld(t, limit)
		p := &player{source: source, called: called}
		s := greeted(t, played)
		for i := range 30 {
			a := p.next()
			want := api.Say{Err: api.ErrVoid}
			if a.Op != api.OpHello {
				want = plainAnswer(called.e, a)
			}
			out := answersOf(t, feeds(s, piecesOf(source, bytesOf(t, a), pick(source, 5, 100, 1000))))
			if len(out) != 1 || showSay(out[0]) != showSay(want) || !s.Open() || played.state() != called.state() {
				t.Fatalf("W12: seed %d, request %d: %s: %d answers, want %s", seed, i, showAsk(a), len(out), showSay(want))
			}
			counts[fmt.Sprint(a.Op, " ", want.Err == api.OK)]++
			if a.Op == api.OpExport && want.Err == api.OK {
				p.exported(t, a.Labels, want.Data)
			}
		}
	}
	for op := 2; op <= 10; op++ {
		for _, ok := range []bool{true, false} {
			if n := counts[fmt.Sprint(op, " ", ok)]; n < 20 && (ok || op != api.OpList) {
				t.Errorf("requests %d with OK %v: only %d", op, ok, n)
			}
		}
	}
}

// exported holds that an export has the shelf's objects, in order.
func (p *player) exported(t *testing.T, roots []api.Label, data []byte) {
	t.Helper()
	p.streams = append(p.streams, string(data))
	n := NewIntake()
	n.Feed(data)
	objects, e, _ := n.Close()
	var labels []api.Label
	for _, o := range objects {
		labels = append(labels, o.Label)
		if x, _ := p.called.e.Read(o.Label); showObjects([]api.Object{x}) != showObjects([]api.Object{o}) {
			t.Fatalf("W12: %s was exported as %s", showObjects([]api.Object{x}), showObjects([]api.Object{o}))
		}
	}
	if want, _, _ := p.called.e.Shelf().Closure(roots); e != api.OK || !slices.Equal(labels, want) || !slices.IsSortedFunc(labels, label.Compare) {
		t.Fatalf("W12: %d, %s were exported, want %s", e, showLabels(labels), showLabels(want))
	}
}
