package depot

import (
	"testing"

	"graft/api"
	"graft/journal"
)

// P17.12, W7: at every moment of a Pull with every number of loose bytes, and at every moment of the opening behind it, the store is
// the one ahead of the call or the one behind it; behind it, if the call has answered.
func TestCrash(t *testing.T) {
	ring := ownGroup(holds(lb, part(lc), lc), holds(lc, part(lb), lb))
	top := holds(la, part(ring[0].Label), ring[0].Label)
	for what, x := range map[string]struct {
		there []api.Object
		files []api.DepotFile
		root  api.Label
	}{
		"one": {nil, depotOf(holds(ld, "d")), ld}, "two, packed": {nil, packedBy("gzip", two()...), la}, "a ring": {[]api.Object{holds(ld, "d")}, depotOf(append(ring, top)...), la},
		"one more": {ring, depotOf(append(ring, top)...), la}, "all there": {two(), depotOf(two()...), la},
	} {
		w := newWorld(t, x.there...)
		before, from := tellShelf(w.s), w.v.Count()
		if _, e, _ := Pull(w.s, x.files, []api.Label{x.root}, nil); e != api.OK {
			t.Fatalf("P17.6: %s: %d", what, e)
		}
		after := tellShelf(w.s)
		both := everyMoment(t, w.v, from, func(disk api.Disk, answered bool) string {
			state := reopened(t, what, disk, before, after)
			if answered && state != after {
				t.Errorf("W7: %s: what was answered is not there", what)
			}
			goesOn(t, what, disk, x.files, x.root, after)
			return state
		})
		if want := map[bool]int{true: 1, false: 2}[before == after]; both != want {
			t.Errorf("W7: %s: %d states, want %d", what, both, want)
		}
	}
}

// goesOn holds that the same Pull, once more, comes to the same store.
func goesOn(t *testing.T, what string, disk api.Disk, files []api.DepotFile, root api.Label, after string) {
	t.Helper()
	w := worldOf(t, disk, wide)
	if _, e, _ := Pull(w.s, files, []api.Label{root}, nil); e != api.OK || tellShelf(w.s) != after {
		t.Fatalf("P17.12: %s: once more: %d", what, e)
	}
}

// A Push uses the store's device for nothing.
func TestPushNoOperation(t *testing.T) {
	w := newWorld(t, two()...)
	before := w.state()
	for _, how := range []string{"none", "gzip"} {
		if _, e, _ := Push(w.s, nil, []api.Label{la}, []api.Key{home}, how); e != api.OK || w.state() != before {
			t.Errorf("P17.5: %d, or the store has changed", e)
		}
	}
}

// everyMoment goes over what a disk holds at every moment from a number of operations on, with every number of loose bytes: how many
// unlike states there are.
func everyMoment(t *testing.T, v *journal.Device, from int, see func(disk api.Disk, answered bool) string) int {
	t.Helper()
	states := map[string]int{}
	seen := map[string]int{}
	for n := from; n <= v.Count(); n++ {
		all, _ := v.At(n, [2]int{1 << 30, 1 << 30})
		safe, _ := v.At(n, [2]int{})
		loose := max(len(all.Files[0])-len(safe.Files[0]), len(all.Files[1])-len(safe.Files[1]))
		for keep := range loose + 1 {
			disk, e := v.At(n, [2]int{keep, keep})
			if e != api.OK {
				t.Fatalf("P11.3: %d", e)
			}
			key := string(disk.Files[0]) + "|" + string(disk.Files[1])
			answered := n == v.Count()
			if seen[key]++; seen[key] > 1 && !answered {
				continue
			}
			states[see(disk, answered)]++
		}
	}
	return len(states)
}

// reopened opens a store on a disk, and on all that that disk may hold if the power fails while it is opened: they are one store,
// which is one of two.
func reopened(t *testing.T, what string, disk api.Disk, before, after string) string {
	t.Helper()
	w := worldOf(t, disk, wide)
	state := tellShelf(w.s)
	if state != before && state != after {
		t.Fatalf("W7: %s: a store between two: %s", what, state)
	}
	everyMoment(t, w.v, 0, func(disk api.Disk, _ bool) string {
		if again := tellShelf(worldOf(t, disk, wide).s); again != state {
			t.Fatalf("W7: %s: another store behind the second failure: %s", what, again)
		}
		return state
	})
	return state
}
