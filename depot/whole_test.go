package depot

import (
	"slices"
	"testing"

	"graft/api"
	"graft/journal"
	"graft/shelf"
	"graft/sweep"
)

// The stores as a whole: what one has made goes by a depot to another, is renamed, kept and swept there, and goes on to a third.
func TestWhole(t *testing.T) {
	one, two := filled(t), newStore(t)
	names := one.fine("P15.5", one.e.Rewrite([]api.Label{la, ld}, 7)).Map
	files, e, _ := Push(one.s, nil, []api.Label{la, ld}, []api.Key{home}, "gzip")
	if e != api.OK {
		t.Fatalf("P17.5: %d", e)
	}
	if got, e, _ := Pull(two.s, files, []api.Label{la, ld}, []api.Key{home}); e != api.OK || len(got) != 4 {
		t.Fatalf("P17.6: %s, %d", showLabels(got), e)
	}
	// W4: guests that came are renamed as they were at home.
	if there := two.fine("P15.5", two.e.Rewrite([]api.Label{la, ld}, 100)).Map; !slices.Equal(there, names) {
		t.Errorf("W4: %v, want %v", there, names)
	}
	two.verifies("renamed")
	// W9: kept, and swept.
	var kept api.Label
	for _, x := range names {
		if x.Old == la {
			kept = x.New
		}
	}
	if e := sweep.Keep(two.s, "root", kept); e != api.OK {
		t.Fatalf("P13.1: %d", e)
	}
	if _, _, e := sweep.Collect(two.s, nil, 1<<62); e != api.OK {
		t.Fatalf("P13.9: %d", e)
	}
	want, _, _ := two.s.Closure([]api.Label{kept})
	if !slices.Equal(two.s.List(), want) {
		t.Errorf("W9: %s", showLabels(two.s.List()))
	}
	// What was swept away comes again; what is there stays.
	if got, e, _ := Pull(two.s, files, []api.Label{ld, la}, []api.Key{home}); e != api.OK || len(got) != 4 {
		t.Errorf("P17.6: %s, %d", showLabels(got), e)
	}
	two.verifies("pulled again")
	onward(t, one, two, files, kept)
}

// onward pushes from the second store into the depot of the first, and pulls all of it into a third.
func onward(t *testing.T, one, two *store, files []api.DepotFile, kept api.Label) {
	t.Helper()
	files, e, l := Push(two.s, files, two.s.List(), []api.Key{away, home}, "none")
	if e != api.OK {
		t.Fatalf("P17.5: %d, %s", e, showLabel(l))
	}
	for _, keys := range [][]api.Key{nil, {home}} {
		if e, name := Check(files, keys); e != api.OK {
			t.Errorf("P17.10: %d, %s", e, name)
		}
	}
	three := newStore(t)
	roots := two.s.List()
	if got, e, _ := Pull(three.s, files, roots, []api.Key{home}); e != api.OK || !slices.Equal(got, roots) {
		t.Errorf("P17.6: %s, %d", showLabels(got), e)
	}
	three.verifies("the third")
	for _, l := range roots {
		for _, s := range []*store{one, two} {
			if o, e := s.s.Get(l); e != api.OK || showObject(o) != showObject(firstOf(three.s.Get(l))) {
				t.Errorf("W10: %s: %d", showLabel(l), e)
			}
		}
	}
	// W13: and over a compacted journal.
	if e := three.s.Compact(); e != api.OK {
		t.Fatalf("P12.2: %d", e)
	}
	again := worldOf(t, three.v.Disk(), wide)
	if tellShelf(again.s) != tellShelf(three.s) {
		t.Error("P12.7: another store")
	}
	few, e := Prune(files, []api.Label{kept})
	if e != api.OK || len(few) >= len(files) {
		t.Errorf("P17.9: %d, %d files", e, len(few))
	}
	if e, name := Check(few, []api.Key{home}); e != api.OK {
		t.Errorf("P17.9: Check of a pruned depot: %d, %s", e, name)
	}
	own := worldOf(t, api.Disk{}, wide)
	want, _, _ := three.s.Closure([]api.Label{kept})
	if got, e, _ := Pull(own.s, few, []api.Label{kept}, []api.Key{home}); e != api.OK || !slices.Equal(got, want) {
		t.Errorf("P17.12: %s, %d", showLabels(got), e)
	}
}

// Several stores and depots at one time have nothing in common.
func TestSeveralAtOnce(t *testing.T) {
	want, e, _ := Push(newWorld(t, two()...).s, nil, []api.Label{la}, []api.Key{home}, "gzip")
	if e != api.OK {
		t.Fatalf("P17.5: %d", e)
	}
	done := make(chan string)
	const many = 8
	for range many {
		go func() {
			s, _, _, _ := shelf.Open(journal.NewDevice(api.Disk{}), wide)
			files := copied(want)
			Pull(s, files, []api.Label{la}, []api.Key{home})
			out, _, _ := Push(s, files, []api.Label{la}, []api.Key{home}, "none")
			if e, name := Check(out, []api.Key{home}); e != api.OK {
				done <- name
				return
			}
			done <- showFiles(out)
		}()
	}
	for range many {
		if got := <-done; got != showFiles(want) {
			t.Errorf("%s", got)
		}
	}
}

// One depot's files, looked at by several at one time.
func TestSeveralLooks(t *testing.T) {
	files := signed(depotOf(web()...), home)
	done := make(chan bool)
	const many = 8
	for range many {
		go func() {
			e, _ := Check(files, []api.Key{home})
			lacking, _ := Lacks(files, []api.Label{la})
			few, _ := Prune(files, []api.Label{la})
			s, _, _, _ := shelf.Open(journal.NewDevice(api.Disk{}), wide)
			got, f, _ := Pull(s, files, []api.Label{la}, nil)
			done <- e == api.OK && len(lacking) == 0 && len(few) == 9 && len(got) == 4 && f == api.OK
		}()
	}
	for range many {
		if !<-done {
			t.Error("another answer")
		}
	}
}
