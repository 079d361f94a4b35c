package depot

import (
	"fmt"
	"slices"
	"strings"
	"testing"

	"graft/api"
)

// What is handed in stays as it was, its spare room too, and is not kept; what is handed out is new memory.

var (
	roomFile = api.DepotFile{Name: "room", Data: []byte("room")}
	roomKey  = api.Key{Name: "room", Secret: []byte("room")}
	roomName = named(99, "room")
)

func roomyFiles(files []api.DepotFile) []api.DepotFile {
	files = slices.Clone(files)
	for i, f := range files {
		files[i].Data = roomy(f.Data, '!')
	}
	return roomy(files, roomFile)
}

func roomyKeys(keys ...api.Key) []api.Key {
	keys = slices.Clone(keys)
	for i, k := range keys {
		keys[i].Secret = roomy(k.Secret, '!')
	}
	return roomy(keys, roomKey)
}

// given is what is handed in.
type given struct {
	files []api.DepotFile
	roots []api.Label
	keys  []api.Key
}

func givenOf(files []api.DepotFile, roots []api.Label, keys ...api.Key) given {
	return given{roomyFiles(files), roomy(roots, roomName), roomyKeys(keys...)}
}

// whole is all of it, the room behind its lists too.
func (g given) whole() string {
	var out strings.Builder
	for _, f := range g.files[:cap(g.files)] {
		fmt.Fprintf(&out, "%q %q\n", f.Name, f.Data[:cap(f.Data)])
	}
	for _, k := range g.keys[:cap(g.keys)] {
		fmt.Fprintf(&out, "%q %q\n", k.Name, k.Secret[:cap(k.Secret)])
	}
	fmt.Fprintln(&out, g.roots[:cap(g.roots)])
	return out.String()
}

func (g given) overwrite() {
	for _, f := range g.files {
		overwrite(f.Data, '?')
	}
	for _, k := range g.keys {
		overwrite(k.Secret, '?')
	}
	overwrite(g.files, api.DepotFile{Name: "?"})
	overwrite(g.keys, api.Key{Name: "?"})
	overwrite(g.roots, named(98, "over"))
}

// handed is things to hand in, of which some are refused at each step.
func handed() map[string]given {
	ring := ownGroup(holds(lb, part(lc), lc), holds(lc, part(lb), lb))
	all := append(ring, holds(la, part(ring[0].Label), ring[0].Label))
	files := depotOf(all...)
	wrong := depotOf(append(slices.Clone(all), as(holds(ld, "d"), api.ByText))...)
	roots := []api.Label{la, ring[1].Label, la}
	return map[string]given{
		"right":           givenOf(files, roots),
		"right, signed":   givenOf(signed(packedBy("gzip", all...), home), roots, home, away),
		"nothing":         givenOf(nil, nil),
		"no depot.card":   givenOf(without(files, "depot.card"), roots),
		"two of one name": givenOf(append(files, files[2]), roots, home),
		"not signed":      givenOf(files, roots, home),
		"a wrong key":     givenOf(files, roots, home, api.Key{Name: "k"}),
		"no card":         givenOf(without(files, cardOf(la)), roots),
		"a card of none":  givenOf(with(files, cardOf(la), []byte("x")), roots),
		"another file":    givenOf(with(files, cardIn(files, la).Url, []byte("x")), roots),
		"a wrong one":     givenOf(wrong, append(roots, ld)),
		"a wrong root":    givenOf(files, []api.Label{la, {}}),
		"other files":     givenOf(append(files, api.DepotFile{Name: "note", Data: []byte("x")}), roots[:1]),
	}
}

func handedStore(t *testing.T) *world {
	t.Helper()
	ring := ownGroup(holds(lb, part(lc), lc), holds(lc, part(lb), lb))
	return newWorld(t, append(ring, holds(la, part(ring[0].Label), ring[0].Label), holds(ld, "d"))...)
}

func TestMemoryIn(t *testing.T) {
	for what := range handed() {
		for call, do := range map[string]func(w *world, g given) string{
			"Push": func(_ *world, g given) string {
				files, e, l := Push(handedStore(t).s, g.files, g.roots, g.keys, "gzip")
				return fmt.Sprint(showFiles(files), e, showLabel(l))
			},
			"Pull": func(w *world, g given) string {
				labels, e, l := Pull(w.s, g.files, g.roots, g.keys)
				return fmt.Sprint(showLabels(labels), e, showLabel(l), w.state())
			},
			"Check": func(_ *world, g given) string { return fmt.Sprint(Check(g.files, g.keys)) },
			"Lacks": func(_ *world, g given) string { return fmt.Sprint(Lacks(g.files, g.roots)) },
			"Prune": func(_ *world, g given) string {
				files, e := Prune(g.files, g.roots)
				return fmt.Sprint(showFiles(files), e)
			},
		} {
			g, w := handed()[what], newWorld(t)
			before := g.whole()
			do(w, g)
			if g.whole() != before {
				t.Errorf("%s, %s: what was handed in has changed", call, what)
			}
			state := w.state()
			g.overwrite()
			if w.state() != state {
				t.Errorf("%s, %s: what was handed in is kept", call, what)
			}
		}
	}
}

// The files that are handed out have no memory in common with those that were handed in, with the shelf, or with one another.
func TestMemoryOut(t *testing.T) {
	for what, g := range handed() {
		w := handedStore(t)
		state := w.state()
		for call, do := range map[string]func() ([]api.DepotFile, api.Errno){
			"Push": func() ([]api.DepotFile, api.Errno) {
				f, e, _ := Push(w.s, g.files, g.roots, g.keys, "none")
				return f, e
			},
			"Push, gzip": func() ([]api.DepotFile, api.Errno) {
				f, e, _ := Push(w.s, g.files, g.roots, g.keys, "gzip")
				return f, e
			},
			"Push, more": func() ([]api.DepotFile, api.Errno) {
				f, e, _ := Push(w.s, g.files, append(slices.Clone(g.roots), ld), g.keys, "none")
				return f, e
			},
			"Prune": func() ([]api.DepotFile, api.Errno) { return Prune(g.files, g.roots) },
		} {
			before := g.whole()
			one, _ := do()
			two, e := do()
			told := showFiles(two)
			for i := range one {
				overwrite(one[i].Data, '#')
				for k := range one {
					if k > i && showFiles(one[k:k+1]) != showFiles(two[k:k+1]) {
						t.Errorf("%s, %s: two files share memory", call, what)
					}
				}
			}
			overwrite(one, api.DepotFile{Name: "#"})
			if g.whole() != before || w.state() != state || showFiles(two) != told {
				t.Errorf("%s, %s: %d: what is handed out shares memory", call, what, e)
			}
			if again, _ := do(); showFiles(again) != told {
				t.Errorf("%s, %s: what was handed out is kept", call, what)
			}
			// And what was handed in may be changed behind it.
			other := handed()[what]
			if call == "Prune" {
				out, _ := Prune(other.files, other.roots)
				other.overwrite()
				if showFiles(out) != told {
					t.Errorf("%s, %s: what was handed in is kept", call, what)
				}
			}
		}
		out, _, _ := Push(w.s, g.files, g.roots, g.keys, "none")
		told := showFiles(out)
		again := handed()[what]
		out, _, _ = Push(w.s, again.files, again.roots, again.keys, "none")
		again.overwrite()
		if showFiles(out) != told {
			t.Errorf("Push, %s: what was handed in is kept", what)
		}
	}
}

// Labels and bases that are handed out are new memory, too.
func TestMemoryLists(t *testing.T) {
	g := handed()["right"]
	before := g.whole()
	one, two := newWorld(t), newWorld(t)
	first, _, _ := Pull(one.s, g.files, g.roots, nil)
	second, _, _ := Pull(two.s, g.files, g.roots, nil)
	state := one.state()
	overwrite(first, named(98, "over"))
	if g.whole() != before || one.state() != state || two.state() != state || slices.Contains(second, named(98, "over")) || len(second) != 3 {
		t.Error("Pull: what is handed out shares memory")
	}
	g = handed()["no card"]
	before = g.whole()
	lacking, _ := Lacks(g.files, g.roots)
	more, _ := Lacks(g.files, g.roots)
	overwrite(lacking, "over")
	if g.whole() != before || len(more) != 1 || more[0] != baseOf(la) {
		t.Errorf("Lacks: what is handed out shares memory: %q", more)
	}
}

// Files, secrets and names may share memory with one another.
func TestMemoryShared(t *testing.T) {
	one, two := holds(la, "1"), holds(lb, "2")
	files := depotOf(one, two)
	var all []byte
	for _, f := range files {
		all = append(all, f.Data...)
	}
	at := 0
	for i, f := range files {
		files[i].Data = all[at : at+len(f.Data)]
		at += len(f.Data)
	}
	newBoth(t).pulls("one memory", files, []api.Label{la, lb}, []api.Label{la, lb})
	b := newBoth(t, one, two, holds(lc, "3"))
	got := b.pushes(files, []api.Label{la, lb, lc}, "none", home)
	told := showFiles(got)
	overwrite(all, '?')
	if showFiles(got) != told {
		t.Error("Push: what was handed in is kept")
	}
	secret := []byte("secret")
	keys := []api.Key{{Name: "a", Secret: secret[:3]}, {Name: "b", Secret: secret}, {Name: "c", Secret: secret[2:]}}
	b.pushes(nil, []api.Label{la}, "none", keys...)
	if string(secret) != "secret" {
		t.Error("Push: a secret has changed")
	}
}
