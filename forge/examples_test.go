package forge

import (
	"slices"
	"strings"
	"testing"

	"graft/api"
)

// The examples of the chapter.
func TestExamples(t *testing.T) {
	// 1
	runs(t, api.OK, 0, file("hi"), "file out hi")
	runs(t, api.OK, 0, dir(entry("a", program("1")), entry("b", link("a"))), "dir out", "file out/a 1", "link out/b a", "exec out/a")
	// 2
	runs(t, api.ErrStep, 0, api.Node{}, "file out/a x")
	runs(t, api.ErrStep, 1, api.Node{}, "dir out", "dir out")
	runs(t, api.ErrMade, 1, api.Node{}, "file tmp x")
	runs(t, api.ErrMade, 0, api.Node{})
	// 3
	if e, at := Check(plainly("file out")); e != api.ErrStep || at != 0 {
		t.Errorf("3: %d, %d", e, at)
	}
	runs(t, api.OK, 0, file(""), "file out ")
	for _, arg := range []string{"dir out x", "dir  out", "Dir out", "file out $x"} {
		checks(t, arg, false)
	}
	runs(t, api.OK, 0, file("$x"), "file out $$x")
	// 4
	r := plainly("file out ${v}")
	r.Env = []api.Pair{{Key: "out", Value: textOf(numbered(1))}, {Key: "v", Value: "1 2"}}
	runsTo(t, r, nil, api.OK, 0, file("1 2"))
	r.Args[0] = "file out ${w}"
	if e, at := Check(r); e != api.ErrStep || at != 0 {
		t.Errorf("4: %d, %d", e, at)
	}
	// 5
	runs(t, api.OK, 0, file("bab"), "file out aaab", "swap out aa b")
	fails(t, "file out x", "swap out ${e} x")
	// 6
	runs(t, api.ErrStep, 1, api.Node{}, "dir out", "file out/.. x")
	runs(t, api.ErrStep, 0, api.Node{}, "copy out "+textOf(numbered(1))+"/bin")
	// 7
	runs(t, api.OK, 0, file("d \nf a\n"), "dir tmp", "file tmp/a 1", "list out tmp")
	// 8
	w := newWorld(t)
	l := w.lay("n", float("file out ${out}"))
	made := w.make(want(l))
	if w.bytes(made[0]) != textOf(made[0]) || made[0].Name != "n" {
		t.Errorf("8: %q", w.bytes(made[0]))
	}
	// 9
	if f, e := Make(w.s, wants(l), 0); e != api.ErrArg || len(f.Mades) > 0 {
		t.Errorf("9: %d", e)
	}
	if f, e := Make(w.s, wants(l), 1); e != api.OK || len(f.Ran) > 0 || f.Mades[0].Label != made[0] {
		t.Errorf("9: %d, %s", e, showForging(f))
	}
	// 10
	b := w.lay("b", float("dir out", "file out/f x"))
	for _, in := range []api.Label{b, l} {
		a := w.lay("a", asking(float("copy out "+stand(in, "out")), in, "out"))
		got := w.make(want(in), want(a))
		if showTree(w.tree(got[0])) != showTree(w.tree(got[1])) || !strings.HasPrefix(got[1].Name, "a") {
			t.Errorf("10: %s", showTree(w.tree(got[1])))
		}
	}
	if o := w.get(w.make(want(w.lay("a", asking(float("copy out "+stand(l, "out")), l, "out"))))[0]); !slices.Equal(o.Refs, made) {
		t.Errorf("10: %s", showLabels(o.Refs))
	}
}
