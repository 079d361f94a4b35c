package depot

import (
	"slices"
	"testing"

	"graft/api"
)

// both is a store, and another one on a device of its own for the plain reading of the chapter: all answers are the same, and the
// devices too.
type both struct {
	*world
	other *world
}

func bothOn(t *testing.T, disk api.Disk, limit int) *both {
	t.Helper()
	return &both{worldOf(t, disk, limit), worldOf(t, disk, limit)}
}

func newBoth(t *testing.T, objects ...api.Object) *both {
	t.Helper()
	b := bothOn(t, api.Disk{}, wide)
	b.lay(objects...)
	return b
}

func (b *both) lay(objects ...api.Object) {
	b.t.Helper()
	b.world.lay(objects...)
	b.other.lay(objects...)
}

// alike holds that both stores are the same.
func (b *both) alike(what string) {
	b.t.Helper()
	if b.state() != b.other.state() {
		b.t.Fatalf("%s: another store: %s\nwant %s", what, b.state(), b.other.state())
	}
}

// push holds a Push against the plain reading, and that the store stays as it was.
func (b *both) push(files []api.DepotFile, roots []api.Label, keys []api.Key, how string) ([]api.DepotFile, api.Errno, api.Label) {
	b.t.Helper()
	before := b.state()
	got, e, l := Push(b.s, files, roots, keys, how)
	want, f, m := plainPush(b.other.s, files, roots, keys, how)
	if showFiles(got) != showFiles(want) || e != f || l != m {
		b.t.Fatalf("P17.5: %d, %s\n%swant %d, %s\n%s", e, showLabel(l), showFiles(got), f, showLabel(m), showFiles(want))
	}
	if e != api.OK && len(got) > 0 || b.state() != before {
		b.t.Fatalf("P17.5: %d: files beside it, or the store has changed", e)
	}
	return got, e, l
}

// pull holds a Pull against the plain reading.
func (b *both) pull(files []api.DepotFile, roots []api.Label, keys ...api.Key) ([]api.Label, api.Errno, api.Label) {
	b.t.Helper()
	before := b.state()
	got, e, l := Pull(b.s, files, roots, keys)
	want, f, m := plainPull(b.other.s, files, roots, keys)
	if !slices.Equal(got, want) || e != f || l != m {
		b.t.Fatalf("P17.6: %s, %d, %s, want %s, %d, %s", showLabels(got), e, showLabel(l), showLabels(want), f, showLabel(m))
	}
	b.alike("P17.6")
	if (e != api.OK || len(got) == 0) && b.state() != before {
		b.t.Fatalf("P17.6: %d: the store has changed", e)
	}
	return got, e, l
}

// checked holds a Check against the plain reading.
func checked(t *testing.T, files []api.DepotFile, keys ...api.Key) (api.Errno, string) {
	t.Helper()
	e, name := Check(files, keys)
	if f, want := plainCheck(files, keys); e != f || name != want {
		t.Fatalf("P17.7: %d, %q, want %d, %q", e, name, f, want)
	}
	return e, name
}

func lacked(t *testing.T, files []api.DepotFile, roots ...api.Label) ([]string, api.Errno) {
	t.Helper()
	got, e := Lacks(files, roots)
	if want, f := plainLacks(files, roots); !slices.Equal(got, want) || e != f {
		t.Fatalf("P17.8: %q, %d, want %q, %d", got, e, want, f)
	}
	return got, e
}

func pruned(t *testing.T, files []api.DepotFile, roots ...api.Label) ([]api.DepotFile, api.Errno) {
	t.Helper()
	got, e := Prune(files, roots)
	if want, f := plainPrune(files, roots); showFiles(got) != showFiles(want) || e != f {
		t.Fatalf("P17.9: %d\n%swant %d\n%s", e, showFiles(got), f, showFiles(want))
	}
	return got, e
}

// pushes holds that a Push goes well: the files.
func (b *both) pushes(files []api.DepotFile, roots []api.Label, how string, keys ...api.Key) []api.DepotFile {
	b.t.Helper()
	got, e, l := b.push(files, roots, keys, how)
	if e != api.OK || l != (api.Label{}) {
		b.t.Fatalf("P17.5: Push = %d, %s", e, showLabel(l))
	}
	return got
}

// refusesPush holds that a Push answers an error and a label.
func (b *both) refusesPush(what string, files []api.DepotFile, roots []api.Label, keys []api.Key, how string, e api.Errno, l api.Label) {
	b.t.Helper()
	if _, f, m := b.push(files, roots, keys, how); f != e || m != l {
		b.t.Errorf("P17.5: %s: Push = %d, %s, want %d, %s", what, f, showLabel(m), e, showLabel(l))
	}
}

// pulls holds that a Pull goes well, and which labels come.
func (b *both) pulls(what string, files []api.DepotFile, roots []api.Label, want []api.Label, keys ...api.Key) {
	b.t.Helper()
	if got, e, l := b.pull(files, roots, keys...); e != api.OK || l != (api.Label{}) || !slices.Equal(got, want) {
		b.t.Errorf("P17.6: %s: Pull = %s, %d, %s, want %s", what, showLabels(got), e, showLabel(l), showLabels(want))
	}
}

// refusesPull holds that a Pull answers an error and a label.
func (b *both) refusesPull(what string, files []api.DepotFile, roots []api.Label, e api.Errno, l api.Label, keys ...api.Key) {
	b.t.Helper()
	if got, f, m := b.pull(files, roots, keys...); f != e || m != l || len(got) > 0 {
		b.t.Errorf("P17.6: %s: Pull = %s, %d, %s, want %d, %s", what, showLabels(got), f, showLabel(m), e, showLabel(l))
	}
}

// finds holds what a Check answers.
func finds(t *testing.T, what string, files []api.DepotFile, e api.Errno, name string, keys ...api.Key) {
	t.Helper()
	if f, got := checked(t, files, keys...); f != e || got != name {
		t.Errorf("P17.7: %s: Check = %d, %q, want %d, %q", what, f, got, e, name)
	}
}
