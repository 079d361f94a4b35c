package engine

import (
	"testing"

	"graft/api"
	"graft/journal"
)

// W7: at every moment of a call with every number of loose bytes, and at every moment of the opening behind it, the store is the one
// ahead of the call or the one behind it; behind it, if the call has answered.
func TestCrash(t *testing.T) {
	for what, x := range map[string]struct {
		prepare func(w *world)
		call    func(w *world) api.Errno
	}{
		"Import": {func(w *world) {}, func(w *world) api.Errno {
			return w.e.Import([]api.Object{holding(la, part(lb), lb), holding(lb, part(la), la), holding(lc, "c")}, 5).Err
		}},
		"Import of one more": {func(w *world) { w.take(holding(la, "a")) }, func(w *world) api.Errno {
			return w.e.Import([]api.Object{holding(la, "a"), holding(lb, "a", la)}, 5).Err
		}},
		"AddText":        {func(w *world) { w.text("own", "own") }, func(w *world) api.Errno { return w.e.AddText("t", []byte("text"), nil).Err }},
		"AddTree":        {func(w *world) { w.take(holding(la, "a")) }, func(w *world) api.Errno { return w.e.AddTree("d", dir(entry("a", link("x")))).Err }},
		"Rewrite of one": {func(w *world) { w.take(holding(la, "a")) }, func(w *world) api.Errno { return w.e.Rewrite([]api.Label{la}, 5).Err }},
		"Rewrite of rings": {func(w *world) {
			w.take(holding(la, part(lb)+part(lc), lb, lc), holding(lb, part(la), la), holding(lc, part(lc), lc))
		}, func(w *world) api.Errno { return w.e.Rewrite([]api.Label{la}, 5).Err }},
		"Rewrite of one more": {func(w *world) {
			w.take(holding(la, part(lb), lb), holding(lb, "b"))
			w.rename(lb)
		}, func(w *world) api.Errno { return w.e.Rewrite([]api.Label{la}, 5).Err }},
		"Rewrite once more": {func(w *world) {
			w.take(holding(la, "a"))
			w.rename(la)
		}, func(w *world) api.Errno { return w.e.Rewrite([]api.Label{la}, 5).Err }},
		"Compact": {func(w *world) {
			w.take(holding(la, part(lb), lb), holding(lb, "b"))
			w.rename(la)
			w.drop(la)
		}, func(w *world) api.Errno { return w.e.Shelf().Compact() }},
	} {
		w := newWorld(t)
		x.prepare(w)
		before, from := tellShelf(w.e.Shelf()), w.v.Count()
		if e := x.call(w); e != api.OK {
			t.Fatalf("%s: %d", what, e)
		}
		after := tellShelf(w.e.Shelf())
		both := everyMoment(t, w.v, from, func(disk api.Disk, answered bool) string {
			state := reopened(t, what, disk, before, after)
			if answered && state != after {
				t.Errorf("W7: %s: what was answered is not there", what)
			}
			return state
		})
		if want := map[bool]int{true: 1, false: 2}[before == after]; both != want {
			t.Errorf("W7: %s: %d states, want %d", what, both, want)
		}
	}
}

// everyMoment goes over what a disk holds at every moment from a number of operations on, with every number of loose bytes: how many
// unlike states there are.
func everyMoment(t *testing.T, v *journal.Device, from int, see func(disk api.Disk, answered bool) string) int {
	t.Helper()
	states := map[string]int{}
	seen := map[string]int{}
	for n := from; n <= v.Count(); n++ {
		all, _ := v.At(n, [2]int{1 << 30, 1 << 30})
		safe, _ := v.At(n, [2]int{})
		loose := max(len(all.Files[0])-len(safe.Files[0]), len(all.Files[1])-len(safe.Files[1]))
		for keep := range loose + 1 {
			disk, e := v.At(n, [2]int{keep, keep})
			if e != api.OK {
				t.Fatalf("P11.3: %d", e)
			}
			key := string(disk.Files[0]) + "|" + string(disk.Files[1])
			answered := n == v.Count()
			if seen[key]++; seen[key] > 1 && !answered {
				continue
			}
			states[see(disk, answered)]++
		}
	}
	return len(states)
}

// reopened opens a store on a disk, and on all that that disk may hold if the power fails while it is opened: they are one store,
// which is one of two.
func reopened(t *testing.T, what string, disk api.Disk, before, after string) string {
	t.Helper()
	v := journal.NewDevice(disk)
	state := tellShelf(mustOpen(t, v, wide).Shelf())
	if state != before && state != after {
		t.Fatalf("W7: %s: a store between two: %s", what, state)
	}
	everyMoment(t, v, 0, func(disk api.Disk, _ bool) string {
		if again := tellShelf(mustOpen(t, journal.NewDevice(disk), wide).Shelf()); again != state {
			t.Fatalf("W7: %s: another store behind the second failure: %s", what, again)
		}
		return state
	})
	return state
}

// W7: whatever the moment, the call done once more comes to the same.
func TestCrashGoesOn(t *testing.T) {
	objects := []api.Object{holding(la, part(lb)+part(lc), lb, lc), holding(lb, part(la), la), holding(lc, part(lc), lc)}
	w := newWorld(t)
	script := func(e *Engine) api.Outcome {
		if out := e.Import(objects, 5); out.Err != api.OK {
			return out
		}
		e.AddText("t", []byte("text"), nil)
		e.AddTree("d", dir())
		return e.Rewrite([]api.Label{la}, 6)
	}
	done := script(w.e)
	whole := tellShelf(w.e.Shelf())
	everyMoment(t, w.v, 0, func(disk api.Disk, _ bool) string {
		e := mustOpen(t, journal.NewDevice(disk), wide)
		state := tellShelf(e.Shelf())
		if out := script(e); show(out) != show(done) || tellShelf(e.Shelf()) != whole {
			t.Fatalf("W7: %s", show(out))
		}
		return state
	})
}
