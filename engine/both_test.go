package engine

import (
	"fmt"
	"testing"

	"graft/api"
	"graft/journal"
	"graft/shelf"
)

// both is a store, and the plain reading of the chapter on a device of its own: all answers are the same, and the devices too.
type both struct {
	*world
	plain plain
	other *journal.Device
}

func bothOn(t *testing.T, disk api.Disk, limit int) *both {
	t.Helper()
	b := &both{world: worldOf(t, disk, limit), other: journal.NewDevice(disk)}
	s, e, _, _ := shelf.Open(b.other, limit)
	if e != api.OK {
		t.Fatalf("P12.3: %d", e)
	}
	b.plain = plain{s}
	return b
}

func newBoth(t *testing.T, objects ...api.Object) *both {
	t.Helper()
	b := bothOn(t, api.Disk{}, wide)
	if o := b.take(objects, 9); o.Err != api.OK {
		t.Fatalf("P15.2: %s", show(o))
	}
	return b
}

// alike holds both answers, and both devices, against each other.
func (b *both) alike(what string, got, want api.Outcome) api.Outcome {
	b.t.Helper()
	if show(got) != show(want) {
		b.t.Fatalf("%s: %s\nwant %s", what, show(got), show(want))
	}
	b.sameDevices(what)
	return got
}

func (b *both) sameDevices(what string) {
	b.t.Helper()
	if b.v.Count() != b.other.Count() || filesOf(b.v) != filesOf(b.other) {
		b.t.Fatalf("%s: another journal: %d operations, want %d", what, b.v.Count(), b.other.Count())
	}
}

func (b *both) take(objects []api.Object, chunk int) api.Outcome {
	b.t.Helper()
	return b.alike("P15.2", b.e.Import(objects, chunk), b.plain.take(objects, chunk))
}

func (b *both) text(name, data string, refs ...api.Label) api.Outcome {
	b.t.Helper()
	return b.alike("P15.3", b.e.AddText(name, []byte(data), refs), b.plain.text(name, []byte(data), refs))
}

func (b *both) tree(name string, n api.Node) api.Outcome {
	b.t.Helper()
	return b.alike("P15.4", b.e.AddTree(name, n), b.plain.tree(name, n))
}

func (b *both) rewrite(chunk int, roots ...api.Label) api.Outcome {
	b.t.Helper()
	out := b.alike(fmt.Sprint("P15.5, chunk ", chunk), b.e.Rewrite(roots, chunk), b.plain.rewrite(roots, chunk))
	if out.Err == api.OK {
		b.follows(out.Map)
	}
	return out
}

func (b *both) verify(l api.Label, chunk int) api.Outcome {
	b.t.Helper()
	return b.alike("P15.7", b.e.Verify(l, chunk), b.plain.verify(l, chunk))
}

func (b *both) lookup(l api.Label) {
	b.t.Helper()
	got, e := b.e.Lookup(l)
	want, f := b.plain.lookup(l)
	if got != want || e != f {
		b.t.Fatalf("P15.6: Lookup of %s = %s, %d, want %s, %d", showLabel(l), showLabel(got), e, showLabel(want), f)
	}
}

// step does a step by hand on both.
func (b *both) step(steps ...api.Step) api.Errno {
	b.t.Helper()
	e, n := b.e.Shelf().Apply(steps)
	if f, m := b.plain.s.Apply(steps); e != f || n != m {
		b.t.Fatalf("P12.1: %d, %d, want %d, %d", e, n, f, m)
	}
	b.sameDevices("P12.1")
	return e
}

func (b *both) lay(objects ...api.Object) {
	b.t.Helper()
	var steps []api.Step
	for _, o := range objects {
		steps = append(steps, api.Step{Kind: api.StepPut, Object: o})
	}
	if e := b.step(steps...); e != api.OK {
		b.t.Fatalf("P12.1: %d", e)
	}
}

// follows holds W3, W5 and W6 of a renaming that went well: what is new reads and verifies as said, and renaming once more, what was
// old and what is new, changes nothing, on a device without room too.
func (b *both) follows(list []api.Same) {
	b.t.Helper()
	var olds, news []api.Label
	for _, x := range list {
		olds, news = append(olds, x.Old), append(news, x.New)
		o, e := b.e.Read(x.New)
		if e != api.OK || o.Ca == api.Guest || x.New.Name != x.Old.Name || o.Maker != "" {
			b.t.Fatalf("W3: %s: %d, %s", showLabel(x.Old), e, showObject(o))
		}
		if out := b.e.Verify(x.New, 11); out.Err != api.OK {
			b.t.Fatalf("W6: %s", show(out))
		}
		if l, e := b.e.Lookup(x.Old); l != x.New || e != api.OK {
			b.t.Fatalf("P15.6: %s is %s, %d", showLabel(x.Old), showLabel(l), e)
		}
	}
	full := b.full()
	before := full.state()
	again := full.e.Rewrite(olds, 3)
	if show(again) != show(api.Outcome{Map: list}) {
		b.t.Fatalf("W5: the old ones once more: %s", show(again))
	}
	for _, x := range full.e.Rewrite(news, 4).Map {
		if x.Old != x.New {
			b.t.Fatalf("W5: %s is renamed to %s", showLabel(x.Old), showLabel(x.New))
		}
	}
	if out := full.e.Rewrite(news, 4); out.Err != api.OK || len(news) > 0 && len(out.Map) == 0 || full.state() != before {
		b.t.Fatalf("W5: the new ones once more: %s", show(out))
	}
}
