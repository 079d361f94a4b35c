package forge

import (
	"fmt"
	"slices"
	"strings"
	"testing"

	"graft/api"
	"graft/journal"
	"graft/label"
	"graft/modulo"
)

// rich is a shelf with recipes of all modes that need one another: some of them, what is asked for last.
func rich(t *testing.T) (*world, []api.Label) {
	t.Helper()
	own := tree("t", dir(entry("bin", dir(entry("sh", program("#!"))))))
	w := newWorld(t, own, guest(numbered(1), file("guest")))
	x := w.lay("x", flat("abc", "file out abc"))
	y := w.lay("y", deep(dir(entry("f", program("1"))), "dir out", "file out/f 1", "exec out/f"))
	f := w.lay("f", from(recipeOf(2, "dev doc out", "file out ${out} ${doc}", "file doc ${out}", "dir dev", "link dev/l ${out}", "copy dev/sh "+textOf(own.Label)+"/bin/sh"), own.Label))
	g := w.lay("g", asking(from(recipeOf(0, "doc out", "file out ${doc} "+stand(f, "out"), "file doc "+textOf(numbered(1))), numbered(1)), f, "out"))
	h := w.lay("h", asking(asking(asking(float("dir out", "copy out/a "+stand(f, "doc"), "link out/b "+stand(x, "out"), "copy out/c "+stand(y, "out")+"/f"), f, "doc"), x, "out"), y, "out"))
	i := w.lay("i", asking(asking(recipeOf(0, "out", "list out "+stand(g, "out"), "line out "+stand(h, "out")), g, "out"), h, "out"))
	j := w.lay("h", asking(asking(asking(float("dir out", "copy out/a "+stand(f, "doc"), "link out/b "+stand(x, "out"), "copy out/c "+stand(y, "out")+"/f", "need out"), f, "doc"), x, "out"), y, "out"))
	return w, []api.Label{x, y, f, g, h, i, j}
}

// What Make answers, and what it leaves on the shelf.
func TestMake(t *testing.T) {
	w, l := rich(t)
	x, y, f, g, h, i, j := l[0], l[1], l[2], l[3], l[4], l[5], l[6]
	asked := []api.Want{want(i), want(j, "out"), want(f, "out", "dev", "out"), want(g)}
	plan, _, _ := Plan(w.s, asked)
	b := bothOn(t, w.v.Disk(), 1<<24)
	told := b.make(asked, 3)
	w.s, w.v = b.s, b.v
	forging, e := Make(w.s, asked, 1)
	if e != api.OK || len(forging.Ran) > 0 || !strings.Contains(told, showLabels(plan)) {
		t.Fatalf("P14.6: %d, %s\n%s", e, showForging(forging), told)
	}
	if len(plan) != 7 || !slices.Equal(label.Sort(plan), label.Sort(l)) {
		t.Errorf("P14.4: %s", showLabels(plan))
	}
	var keys []string
	for _, m := range forging.Mades {
		keys = append(keys, m.Key)
	}
	if want := []string{w.key(i, "out"), w.key(j, "out"), w.key(f, "out"), w.key(f, "dev"), w.key(f, "out"), w.key(g, "doc"), w.key(g, "out")}; !slices.Equal(keys, want) {
		t.Errorf("P14.6: %q, want %q", keys, want)
	}
	if m := forging.Mades; m[2] != m[4] || m[0].Label != w.outLabel(i, "out") || m[5].Label != w.outLabel(g, "doc") || m[1].Label.Name != "h" || m[3].Label.Name != "f-dev" {
		t.Errorf("P14.6: %s", showForging(forging))
	}
	// One thing came of both recipes of that name.
	if m := mustMake(t, w, want(h), want(j)); m[0].Label != m[1].Label || m[0].Key == m[1].Key {
		t.Errorf("P14.9: %v", m)
	}
	for _, l := range []api.Label{x, y} {
		if m := mustMake(t, w, want(l)); m[0].Label != w.outLabel(l, "out") || m[0].Key != w.key(l, "out") {
			t.Errorf("P14.6: %v", m)
		}
	}
}

// The number of workers.
func TestWorkers(t *testing.T) {
	w := newWorld(t)
	l := w.lay("r", float("file out x"))
	for _, n := range []int{0, 17, -1, 1 << 62, -1 << 63} {
		was := markOf(w)
		for _, asked := range [][]api.Want{wants(l), nil, wants(numbered(1))} {
			if f, e := Make(w.s, asked, n); e != api.ErrArg || showForging(f) != showForging(api.Forging{}) {
				t.Errorf("P14.6: %d workers: %d, %s", n, e, showForging(f))
			}
		}
		unchanged(t, "P14.6: workers", w, was)
	}
	for _, n := range []int{1, 2, 16} {
		b := bothOn(t, w.v.Disk(), 1<<20)
		if told := b.make(wants(l), n); !strings.HasPrefix(told, "0 ") {
			t.Errorf("P14.6: %s", told)
		}
	}
}

// Nothing is wanted: nothing is done.
func TestNothingWanted(t *testing.T) {
	w, _ := rich(t)
	was := markOf(w)
	for _, asked := range [][]api.Want{nil, {}} {
		if f, e := Make(w.s, asked, 3); e != api.OK || showForging(f) != showForging(api.Forging{}) {
			t.Errorf("P14.6: %d, %s", e, showForging(f))
		}
	}
	unchanged(t, "P14.6: nothing wanted", w, was)
}

// Each plan with each number of workers: the answer, and the journal byte by byte.
func TestSeveralWorkers(t *testing.T) {
	w, l := rich(t)
	for _, asked := range [][]api.Want{wants(l...), wants(l[5]), wants(l[6], l[4]), {want(l[3], "out"), want(l[2], "doc", "dev")}} {
		var told string
		var files [2]string
		for workers := 1; workers <= api.MaxWork; workers++ {
			v := journal.NewDevice(w.v.Disk())
			s := mustOpen(t, v, 1<<24)
			got := toldMake(Make(s, asked, workers))
			if workers > 1 && (got != told || filesOf(v) != files) {
				t.Fatalf("P14.8: %d workers: %s, want %s", workers, got, told)
			}
			told, files = got, filesOf(v)
		}
		if told[0] != '0' {
			t.Errorf("P14.6: %s", told)
		}
	}
}

// Many recipes at a time: free ones, chains, one that all need, one that needs all; and some that fail.
func TestSeveralRecipes(t *testing.T) {
	for _, bad := range []int{-1, 0, 7, 30} {
		w := newWorld(t)
		base := w.lay("base", float("file out ${out}"))
		all := asking(float("file out all"), base, "out")
		chain := base
		for i := range 40 {
			args := []string{fmt.Sprint("file out ", i), "text out " + stand(base, "out"), "list tmp " + stand(base, "out")}
			if i == bad {
				args = append(args, "fail x")
			}
			l := w.lay("r", asking(recipeOf(2*(i%2), "out", args...), base, "out"))
			if i%5 == 0 {
				r := float(fmt.Sprint("file out chain ", i), "need "+stand(chain, "out"))
				chain = w.lay("c", asking(r, chain, "out"))
				all = asking(all, chain, "out")
			}
			all = asking(all, l, "out")
			all.Args = append(all.Args, "line out "+stand(l, "out"))
		}
		all.Args = append(all.Args, "swap out graft GRAFT")
		top := w.lay("all", all)
		var told string
		var files [2]string
		for _, workers := range []int{1, 2, 3, 5, 16} {
			v := journal.NewDevice(w.v.Disk())
			s := mustOpen(t, v, 1<<24)
			got := toldMake(Make(s, wants(top), workers))
			if workers > 1 && (got != told || filesOf(v) != files) {
				t.Fatalf("P14.8: %d workers: %s, want %s", workers, got, told)
			}
			told, files = got, filesOf(v)
		}
		b := bothOn(t, w.v.Disk(), 1<<24)
		if got := b.make(wants(top), 16); got != told {
			t.Errorf("P14.8: %s, want %s", got, told)
		}
	}
}

// The first recipe that can't be done: what those ahead of it came to stays, what comes behind it is not done.
func TestFirstThatFails(t *testing.T) {
	for what, c := range map[string]struct {
		args []string
		e    api.Errno
		step int
		ran  bool
	}{
		"a step fails":     {[]string{"file out x", "file out y", "fail z"}, api.ErrStep, 1, false},
		"the first step":   {[]string{"fail z", "file out x"}, api.ErrStep, 0, false},
		"no output":        {[]string{"file tmp x", "need tmp"}, api.ErrMade, 2, true},
		"no step":          {nil, api.ErrMade, 0, true},
		"a guest":          {[]string{"file out x", "text out GUEST", "need out"}, api.ErrMade, 3, true},
		"in an entry name": {[]string{"dir out", "dir out/SELF"}, api.ErrMade, 2, true},
	} {
		w := newWorld(t, guest(numbered(1), file("guest")))
		var lows []api.Label
		for i := range 8 {
			lows = append(lows, w.lay("low", float(fmt.Sprint("file out ", i))))
		}
		lows = label.Sort(lows)
		r := from(float(), numbered(1))
		for _, arg := range c.args {
			arg = strings.ReplaceAll(arg, "GUEST", part(numbered(1)))
			r.Args = append(r.Args, strings.ReplaceAll(arg, "SELF", "${self}"))
		}
		// Its own scratch hash part, as one without slashes: by the sum that it has with an empty value in its place.
		r = given(r, "self", "s")
		if what == "in an entry name" {
			own := tree("own", file("x"))
			w.put(own)
			r = from(r, own.Label)
			r.Env[slices.IndexFunc(r.Env, func(p api.Pair) bool { return p.Key == "self" })].Value = part(own.Label)
		}
		bad := w.lay("bad", r)
		over := w.lay("over", asking(float("file out x"), bad, "out"))
		asked := append(wants(lows...), want(bad), want(over))
		plan, _, _ := Plan(w.s, asked)
		at := slices.Index(plan, bad)
		var ran []api.Label
		for _, l := range plan[:at] {
			ran = append(ran, l)
		}
		if c.ran {
			ran = append(ran, bad)
		}
		for _, workers := range []int{1, 4, 16} {
			b := bothOn(t, w.v.Disk(), 1<<24)
			b.make(asked, workers)
			again := w.again(1 << 24)
			f, e := Make(again.s, asked, workers)
			if e != c.e || f.At != bad || f.Step != c.step || len(f.Mades) > 0 || !slices.Equal(f.Ran, ran) {
				t.Errorf("P14.6: %s: %d, %s, want %d, step %d, ran %s", what, e, showForging(f), c.e, c.step, showLabels(ran))
			}
			if n := again.s.Last() - w.s.Last(); n != at || len(again.s.Mades()) != at {
				t.Errorf("P14.6: %s: %d transactions, want %d", what, n, at)
			}
			for i, l := range plan {
				if _, e := again.s.Made(again.key(l, "out")); (e == api.OK) != (i < at) {
					t.Errorf("P14.6: %s: recipe %d: %d", what, i, e)
				}
			}
			// Once more: the same error, and nothing is run again but it.
			f, e = Make(again.s, asked, workers)
			if e != c.e || f.At != bad || f.Step != c.step || len(f.Ran) > 1 || (len(f.Ran) == 1) != c.ran {
				t.Errorf("P14.6: %s, again: %d, %s", what, e, showForging(f))
			}
		}
	}
}

// What is made is not made again: nothing is run, no batch is committed.
func TestOnceMore(t *testing.T) {
	w, l := rich(t)
	asked := wants(l...)
	first, e := Make(w.s, asked, 4)
	if e != api.OK || len(first.Ran) == 0 {
		t.Fatalf("P14.6: %d", e)
	}
	was := markOf(w)
	for workers := 1; workers <= 16; workers += 3 {
		f, e := Make(w.s, asked, workers)
		if e != api.OK || len(f.Ran) > 0 || !slices.Equal(f.Mades, first.Mades) || f.At != (api.Label{}) || f.Step != 0 {
			t.Errorf("P14.8: %d, %s", e, showForging(f))
		}
		w.planned("P14.8", nil, asked...)
	}
	unchanged(t, "P14.8", w, was)
	// On a shelf that was opened anew too.
	again := w.again(1 << 24)
	if f, e := Make(again.s, asked, 2); e != api.OK || len(f.Ran) > 0 || !slices.Equal(f.Mades, first.Mades) {
		t.Errorf("P14.8: %d, %s", e, showForging(f))
	}
}

// A recipe of the plan whose outputs are all made when its turn comes is not done: another one of one sum was.
func TestOneSum(t *testing.T) {
	w := newWorld(t)
	// Two recipes of one name that differ in their inputs' labels alone, the inputs being fixed ones: they have one sum.
	b := w.lay("b", flat("abc", "file out abc"))
	b2 := w.lay("b", flat("abc", "file out abc", "need out"))
	if w.sum(b) != w.sum(b2) {
		t.Fatal("P7.1")
	}
	for mode := 0; mode <= 2; mode += 2 {
		a := w.lay("a", asking(recipeOf(mode, "out", "file out 1"), b, "out"))
		a2 := w.lay("a", asking(recipeOf(mode, "out", "file out 1"), b2, "out"))
		if w.sum(a) != w.sum(a2) || a == a2 {
			t.Fatal("P7.1")
		}
		both := bothOn(t, w.v.Disk(), 1<<24)
		both.make(wants(a, a2), 4)
		plan, _, _ := Plan(w.s, wants(a, a2))
		f, e := Make(w.again(1<<24).s, wants(a2, a), 4)
		if e != api.OK || len(plan) != 4 || len(f.Ran) != 2 || f.Mades[0] != f.Mades[1] {
			t.Errorf("P14.7: 1: %d, %s", e, showForging(f))
		}
	}
}

// A journal with no room: the error, its recipe, and nothing of it has changed.
func TestNoRoom(t *testing.T) {
	w, l := rich(t)
	asked := wants(l...)
	plan, _, _ := Plan(w.s, asked)
	used := w.s.Stat().Journal
	whole := w.again(1 << 24)
	if _, e := Make(whole.s, asked, 3); e != api.OK {
		t.Fatalf("P14.6: %d", e)
	}
	full := whole.s.Stat().Journal
	ends := map[int]bool{}
	for limit := used; limit <= full; limit++ {
		if limit%37 != 0 && limit != full && limit != full-1 && limit != used {
			continue
		}
		b := bothOn(t, w.v.Disk(), limit)
		b.make(asked, 1+limit%4)
		again := w.again(limit)
		f, e := Make(again.s, asked, 1+limit%4)
		if limit == full {
			if e != api.OK {
				t.Errorf("P14.6: at the limit: %d", e)
			}
			continue
		}
		at := slices.Index(plan, f.At)
		if e != api.ErrFull || at < 0 || f.Step != 0 || len(f.Mades) > 0 || again.s.Last() != w.s.Last()+at {
			t.Fatalf("P14.7: 6: limit %d: %d, %s, %d transactions", limit, e, showForging(f), again.s.Last()-w.s.Last())
		}
		// Its steps were all done, but of one that is not run.
		if ran := len(f.Ran) > 0 && f.Ran[len(f.Ran)-1] == f.At; !ran && f.At != l[6] && f.At != l[4] {
			t.Errorf("P14.6: limit %d: %s", limit, showForging(f))
		}
		ends[at] = true
	}
	if len(ends) != len(plan) {
		t.Errorf("Make ends at %d of %d recipes", len(ends), len(plan))
	}
}

// W11: what is made hangs on recipes and inputs alone: not on the order of Makes, nor on what else is on the shelf.
func TestOnRecipesAlone(t *testing.T) {
	first, l := rich(t)
	first.make(wants(l...)...)
	second, _ := rich(t)
	for _, x := range slices.Backward(l) {
		second.make(want(x))
	}
	third, _ := rich(t)
	junk := tree("junk", file("junk"))
	third.put(junk, guest(numbered(77), file(part(junk.Label)), junk.Label))
	for _, name := range []string{"x", "f", "junk"} {
		third.make(want(third.lay(name, float("file out other "+name))))
	}
	for _, i := range []int{2, 4, 0, 6, 1, 3, 5} {
		third.make(want(l[i]), want(l[0]))
	}
	for _, w := range []*world{second, third} {
		for _, m := range mustMake(t, first, wants(l...)...) {
			if m.Label.Name == "" || fmt.Sprint(w.get(m.Label)) != fmt.Sprint(first.get(m.Label)) {
				t.Errorf("W11: %s is another thing", showLabel(m.Label))
			}
		}
		if got, want := mustMake(t, w, wants(l...)...), mustMake(t, first, wants(l...)...); !slices.Equal(got, want) {
			t.Errorf("W11: %v, want %v", got, want)
		}
	}
	first.owned()
	third.owned()
}

// A nil shelf.
func TestNilShelf(t *testing.T) {
	for _, workers := range []int{-1, 0, 1, 17} {
		if f, e := Make(nil, wants(numbered(1)), workers); e != api.OK || showForging(f) != showForging(api.Forging{}) {
			t.Errorf("a nil shelf: %d, %s", e, showForging(f))
		}
	}
	if l, e, at := Plan(nil, wants(numbered(1))); e != api.OK || len(l) > 0 || at != (api.Label{}) {
		t.Errorf("a nil shelf: %s", toldPlan(l, e, at))
	}
	if r, e, at := Resolve(nil, numbered(1)); toldRecipe(r, e, at) != toldRecipe(api.Recipe{}, api.OK, api.Label{}) {
		t.Errorf("a nil shelf: %s", toldRecipe(r, e, at))
	}
}

// Numbers that are used up: ErrEnd is handed on.
func TestNumbersUsedUp(t *testing.T) {
	w := newWorld(t)
	l := w.lay("r", float("file out x"))
	v := lastBatch(t, w)
	s := mustOpen(t, v, 1<<20)
	if e, _ := s.Apply(nil); e != api.OK { // the last number that there is
		t.Fatalf("P12.1: %d", e)
	}
	f, e := Make(s, wants(l), 1)
	if e != api.ErrEnd || f.At != l || f.Step != 0 || !slices.Equal(f.Ran, []api.Label{l}) || len(s.Mades()) > 0 {
		t.Errorf("P14.7: 6: %d, %s", e, showForging(f))
	}
}

// Mades that are full, and objects.
func TestFullTables(t *testing.T) {
	w := newWorld(t)
	l := w.lay("r", float("file out x"))
	x := tree("x", file("x"))
	w.put(x)
	var steps []api.Step
	for i := range api.MaxMades - 1 {
		steps = append(steps, madeOf(fmt.Sprint("k", i), x.Label))
	}
	if e, _ := w.s.Apply(steps); e != api.OK {
		t.Fatalf("P12.1: %d", e)
	}
	over := w.lay("o", asking(float("file out y"), l, "out"))
	f, e := Make(w.s, wants(over), 2)
	if e != api.ErrFull || f.At != over || !slices.Equal(f.Ran, []api.Label{l, over}) || len(f.Mades) > 0 {
		t.Errorf("P14.7: 6: %d, %s", e, showForging(f))
	}
	if _, e := w.s.Made(modulo.Key(w.sum(l), "out")); e != api.OK {
		t.Error("P14.6: what was done ahead stays done")
	}
}
