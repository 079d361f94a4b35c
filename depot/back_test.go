package depot

import (
	"bytes"
	"slices"
	"strings"
	"testing"

	"graft/api"
	"graft/engine"
	"graft/forge"
	"graft/journal"
	"graft/label"
	"graft/modulo"
	"graft/recipe"
)

// store is a store as its users see it, and its device.
type store struct {
	*world
	e *engine.Engine
}

func newStore(t *testing.T) *store {
	t.Helper()
	v := journal.NewDevice(api.Disk{})
	e, f, _, _ := engine.Open(v, wide)
	if f != api.OK {
		t.Fatalf("P15.1: %d", f)
	}
	return &store{&world{t, e.Shelf(), v}, e}
}

// fine holds that a call of the engine went well.
func (s *store) fine(what string, o api.Outcome) api.Outcome {
	s.t.Helper()
	if o.Err != api.OK {
		s.t.Fatalf("%s: %d", what, o.Err)
	}
	return o
}

// filled is a store with objects of every kind: imported, added, made by recipes of each mode, and renamed.
func filled(t *testing.T) *store {
	t.Helper()
	s := newStore(t)
	s.fine("P15.2", s.e.Import([]api.Object{holds(la, part(lb)+part(lc), lb, lc), holds(lb, part(la), la), madeBy(holds(lc, part(lc), lc), ld), holds(ld, "alone")}, 9))
	s.fine("P15.5", s.e.Rewrite([]api.Label{la, ld}, 9))
	one := s.fine("P15.3", s.e.AddText("one", []byte("1"), nil)).At
	s.fine("P15.3", s.e.AddText("two", []byte("see "+part(one)), []api.Label{one}))
	s.fine("P15.4", s.e.AddTree("tree", dir(entry("a", program("x")), entry("b", link(part(one))))))
	for _, algo := range []string{"", "r:sha256", "sha256"} {
		s.makes(algo, one)
	}
	return s
}

// makes makes an output by a recipe: called after its inputs, by what it holds, or by a sum that is known ahead.
func (s *store) makes(algo string, source api.Label) {
	s.t.Helper()
	r := api.Recipe{System: "any", Builder: "builtin:make", Sources: []string{textOf(source)}, Env: []api.Pair{{Key: "out"}}, Outputs: []api.Output{{Name: "out", Algo: algo}}}
	switch algo {
	case "sha256":
		r.Outputs[0].Sum = "2cf24dba5fb0a30e26e83b2ac5b9e29e1b161e5c1fa7425e73043362938b9824" // of hello
		r.Args = []string{"file out hello"}
	default:
		r.Args = []string{"dir out", "file out/a " + textOf(source), "file out/b ${out}"}
	}
	r, e, n := modulo.Fill("made", r, nil)
	if e != api.OK {
		s.t.Fatalf("P7.2: %d, %d", e, n)
	}
	text, _, _ := recipe.Print(r)
	refs, _ := recipe.Refs(r)
	l := s.fine("P15.3", s.e.AddText("made.recipe", []byte(text), refs)).At
	if _, e := forge.Make(s.s, []api.Want{{Recipe: l}}, 2); e != api.OK {
		s.t.Fatalf("P14.6: %q: %d", algo, e)
	}
}

// P17.10, W10: what is pushed from one store and pulled into another reads there as here, by either press and in any order of the
// files; once more changes nothing.
func TestThereAndBack(t *testing.T) {
	s := filled(t)
	s.verifies("filled")
	kinds := map[api.Ca]int{}
	for _, l := range s.s.List() {
		kinds[firstOf(s.s.Get(l)).Ca]++
	}
	if len(kinds) != 5 {
		t.Fatalf("kinds: %v", kinds)
	}
	source := sourceOf(5)
	for _, how := range []string{"none", "gzip"} {
		for _, keys := range [][]api.Key{nil, {home}, {away, home}} {
			for _, roots := range append(eachAlone(s.s.List()), s.s.List(), nil) {
				files, e, l := Push(s.s, nil, roots, keys, how)
				if e != api.OK {
					t.Fatalf("P17.5: %d, %s", e, showLabel(l))
				}
				backAgain(t, s, files, roots, keys, how, func(files []api.DepotFile) {
					source.Shuffle(len(files), func(i, k int) { files[i], files[k] = files[k], files[i] })
				})
			}
		}
	}
}

func eachAlone(labels []api.Label) [][]api.Label {
	var out [][]api.Label
	for _, l := range labels {
		out = append(out, []api.Label{l})
	}
	return out
}

// backAgain holds P17.10 of a depot that was made by one Push.
func backAgain(t *testing.T, s *store, files []api.DepotFile, roots []api.Label, keys []api.Key, how string, shuffle func([]api.DepotFile)) {
	t.Helper()
	want, _, _ := s.s.Closure(roots)
	mixed := copied(files)
	shuffle(mixed)
	for _, other := range []string{"none", "gzip"} {
		if got, e, _ := Push(s.s, mixed, roots, keys, other); e != api.OK || showFiles(got) != showFiles(files) {
			t.Fatalf("P17.10: pushed once more, %s, then %s: %d\n%s", how, other, e, showFiles(got))
		}
	}
	for _, asked := range [][]api.Key{nil, keys} {
		if e, name := Check(mixed, asked); e != api.OK || name != "" {
			t.Fatalf("P17.10: Check = %d, %s", e, name)
		}
		w := newWorld(t)
		got, e, l := Pull(w.s, mixed, roots, asked)
		if e != api.OK || l != (api.Label{}) || !slices.Equal(got, want) || !slices.Equal(w.s.List(), want) {
			t.Fatalf("P17.10: Pull = %s, %d, %s", showLabels(got), e, showLabel(l))
		}
		for _, l := range want {
			if a, b := firstOf(s.s.Get(l)), firstOf(w.s.Get(l)); showObject(a) != showObject(b) {
				t.Errorf("P17.10: %s, want %s", showObject(b), showObject(a))
			}
		}
		w.verifies("pulled")
		before := w.state()
		if got, e, _ := Pull(w.s, mixed, roots, asked); e != api.OK || len(got) > 0 || w.state() != before {
			t.Errorf("P17.10: pulled once more: %s, %d", showLabels(got), e)
		}
		// And onward, into another depot: the same but for the marks.
		onward, e, _ := Push(w.s, nil, roots, keys, how)
		if e != api.OK || showFiles(onward) != showFiles(files) {
			t.Errorf("P17.10: pushed onward: %d", e)
		}
	}
	if lacking, e := Lacks(mixed, roots); e != api.OK || len(lacking) > 0 {
		t.Errorf("P17.8: %q, %d", lacking, e)
	}
}

// P17.10: a depot that had several Pushes, from several stores, by several keys.
func TestSeveralPushes(t *testing.T) {
	one, two := filled(t), newStore(t)
	two.fine("P15.2", two.e.Import([]api.Object{holds(named(20, "x"), "x"), holds(named(21, "y"), part(named(20, "x")), named(20, "x")), holds(ld, "alone")}, 9))
	other := two.fine("P15.3", two.e.AddText("one", []byte("1"), nil)).At
	var files []api.DepotFile
	var labels []api.Label
	for i, x := range []struct {
		s    *store
		keys []api.Key
		how  string
	}{
		{one, []api.Key{keyOf("k", "old"), home}, "none"}, {two, []api.Key{away, home}, "gzip"}, {one, []api.Key{home}, "gzip"}, {two, []api.Key{keyOf("k", "old"), keyOf("x", "x"), home}, "none"},
	} {
		var e api.Errno
		var l api.Label
		if files, e, l = Push(x.s.s, files, x.s.s.List(), x.keys, x.how); e != api.OK {
			t.Fatalf("P17.5: the Push %d: %d, %s", i, e, showLabel(l))
		}
		labels = label.Sort(append(labels, x.s.s.List()...))
		for _, keys := range [][]api.Key{nil, {home}, {away, home}} {
			if e, name := Check(files, keys); e != api.OK {
				t.Errorf("P17.10: behind the Push %d: Check = %d, %s", i, e, name)
			}
		}
		if e, _ := Check(files, []api.Key{keyOf("k", "old")}); e != api.ErrTrust {
			t.Errorf("P17.10: an old key: %d", e)
		}
	}
	w := newWorld(t)
	if got, e, l := Pull(w.s, files, labels, []api.Key{home}); e != api.OK || !slices.Equal(got, labels) {
		t.Errorf("P17.10: Pull = %s, %d, %s", showLabels(got), e, showLabel(l))
	}
	w.verifies("of two stores")
	if !w.s.Has(other) {
		t.Errorf("P17.10: %s", showLabel(other))
	}
}

// P17.11, W10: one byte of one file turned, or a file taken away.
func TestSpoiltNeverComes(t *testing.T) {
	ring := ownGroup(holds(lb, part(lc), lc), holds(lc, part(lb)+part(lc), lb, lc))
	s := newWorld(t, holds(la, part(ring[0].Label), ring[0].Label), ring[0], ring[1])
	for _, how := range []string{"none", "gzip"} {
		files, e, _ := Push(s.s, nil, []api.Label{la}, []api.Key{away, home}, how)
		if e != api.OK {
			t.Fatalf("P17.5: %d", e)
		}
		whole := newWorld(t)
		want, _, _ := Pull(whole.s, files, []api.Label{la}, []api.Key{home})
		told := tellShelf(whole.s)
		held := func(what string, spoilt []api.DepotFile, keys ...api.Key) api.Errno {
			w := newWorld(t)
			got, e, _ := Pull(w.s, spoilt, []api.Label{la}, keys)
			switch {
			case e != api.OK && (len(got) > 0 || len(w.s.List()) > 0):
				t.Fatalf("P17.11: %s: %d, and something came", what, e)
			case e == api.OK && len(keys) > 0 && (!slices.Equal(got, want) || tellShelf(w.s) != told):
				t.Fatalf("P17.11: %s: another store", what)
			case e == api.OK:
				w.verifies(what)
			}
			return e
		}
		turnEach(files, func(name string, spoilt []api.DepotFile) {
			e := held(name+" turned", spoilt, home)
			held(name+" turned, without keys", spoilt)
			if e == api.OK && !strings.HasSuffix(name, ".card") {
				t.Errorf("P17.11: %s turned: it comes", name)
			}
		})
		for _, f := range files {
			if e := held("without "+f.Name, without(files, f.Name), home); e == api.OK {
				t.Errorf("P17.11: without %s: it comes", f.Name)
			}
			held("without "+f.Name, without(files, f.Name))
		}
	}
}

// turnEach goes over files with one byte turned, each of them in several ways.
func turnEach(files []api.DepotFile, see func(name string, spoilt []api.DepotFile)) {
	for i, f := range files {
		for at := range f.Data {
			for _, bits := range []byte{1, 0x20, 0x80} {
				spoilt := slices.Clone(files)
				spoilt[i].Data = bytes.Clone(f.Data)
				spoilt[i].Data[at] ^= bits
				see(f.Name, spoilt)
			}
		}
	}
}
