package sweep

import (
	"fmt"
	"slices"
	"strings"
	"testing"

	"graft/api"
	"graft/journal"
	"graft/shelf"
)

// batchesOf is the payloads of the batches behind a number, each batch as one text.
func batchesOf(t *testing.T, v *journal.Device, behind int) []string {
	t.Helper()
	story, e, _, _ := journal.Replay(v.Disk())
	if e != api.OK {
		t.Fatalf("P11.5: %d", e)
	}
	var out []string
	for i, batch := range story.Batches {
		if story.First+i > behind {
			out = append(out, string(slices.Concat(batch...)))
		}
	}
	return out
}

// dropsOf is the entries that drop labels.
func dropsOf(letters string) string {
	out := ""
	for _, l := range labelsOf(letters) {
		out += string([]byte{dropByte}) + text(baseOf(l))
	}
	return out
}

// P13.10: group by group, each by one transaction that drops its members, in order.
func TestCollect(t *testing.T) {
	for _, x := range []struct {
		words, live string
		want        int
		groups      string
		free        int
	}{
		{"a b c", "", all, "a b c", 360},
		{"a b c", "", 1, "a", 120},
		{"a b c", "", 120, "a", 120},
		{"a b c", "", 121, "a b", 240},
		{"a b c", "", 360, "a b c", 360},
		{"a b c", "", 361, "a b c", 360},
		{"a b c", "", 0, "", 0},
		{"a b c", "", -1, "", 0},
		{"a b c", "b", all, "a c", 240},
		{"a b c", "abc", all, "", 0},
		{"", "", all, "", 0},
		{"ab bc ca d", "", 1, "abc", 360},
		{"ba cb dc a e", "e", all, "d c b a", 480},
		{"ef fed dab ab ba x", "x", 361, "ef d ab", 600},
		{"ef fed dab ab ba x", "x", 360, "ef d", 360},
		{"aa", "", 1, "a", 120},
	} {
		s, v := world(t, x.words)
		extra := labelsOf(x.live)
		last, count := s.Last(), v.Count()
		labels, free, e := Collect(s, extra, x.want)
		if got := lettersOf(labels); got != strings.ReplaceAll(x.groups, " ", "") || free != x.free || e != api.OK {
			t.Errorf("P13.10: Collect of %q with want %d = %s, %d, %d", x.words, x.want, got, free, e)
		}
		var want []string
		for _, g := range strings.Fields(x.groups) {
			want = append(want, dropsOf(g))
		}
		if got := batchesOf(t, v, last); !slices.Equal(got, want) || s.Last() != last+len(want) || v.Count() != count+2*len(want) {
			t.Errorf("P13.10: Collect of %q with want %d: %q, want %q", x.words, x.want, got, want)
		}
		if x.want == all && lettersOf(s.List()) != lettersOf(Live(s, extra)) {
			t.Errorf("P13.11: %s", lettersOf(s.List()))
		}
	}
}

// P13.10: what leads to an object that goes goes with it, as shelf says; the rest stays.
func TestCollectTies(t *testing.T) {
	same := func(old, to byte) api.Step {
		return api.Step{Kind: api.StepSame, Same: api.Same{Old: named(old), New: named(to)}}
	}
	made := func(key string, to byte) api.Step {
		return api.Step{Kind: api.StepMade, Made: api.Made{Key: key, Label: named(to)}}
	}
	s, _ := world(t, "a bc c", same('x', 'a'), same('y', 'b'), made("k", 'a'), made("l", 'c'), setTo("v", "w"))
	Keep(s, "r", named('b'))
	if labels, free, e := Collect(s, nil, all); lettersOf(labels) != "a" || free != 120 || e != api.OK {
		t.Errorf("P13.10: %s, %d, %d", lettersOf(labels), free, e)
	}
	want, _ := world(t, "bc c", same('y', 'b'), made("l", 'c'), setTo("v", "w"))
	Keep(want, "r", named('b'))
	if tell(s) != tell(want) {
		t.Errorf("P13.11: %s", firstUnlike(tell(s), tell(want)))
	}
}

// richWorld is a shelf with all that a Collect meets: rings, chains, shared archives, roots, a profile.
func richWorld(t *testing.T) (*shelf.Shelf, *journal.Device) {
	t.Helper()
	s, v := world(t, "ab ba ca dlm lm m e", put(named('f'), "same", named('a')), put(named('g'), "same"), put(named('h'), "m"))
	Keep(s, "r", named('l'))
	Advance(s, "p", named('e'))
	Switch(s, "p", 0)
	mustApply(t, s, api.Step{Kind: api.StepSame, Same: api.Same{Old: named('x'), New: named('a')}}, api.Step{Kind: api.StepMade, Made: api.Made{Key: "k", Label: named('m')}})
	return s, v
}

// P13.10: a journal with no room for a drop, at each limit that a journal may have: what is refused at once, what goes
// when the journal has been made short, what is refused then too, and what went ahead of it.
func TestCollectFull(t *testing.T) {
	_, rich := richWorld(t)
	long := func(letter byte) api.Label {
		return api.Label{Hash: named(letter).Hash, Name: strings.Repeat(string(letter), 211)}
	}
	_, late := world(t, "a", put(long('b'), "b", long('c')), put(long('c'), "c", long('d')), put(long('d'), "d", long('b'))) // dropping the ring needs much room
	seen := map[string]int{}
	for _, v := range []*journal.Device{rich, late} {
		for limit := api.MinRoom; limit < len(v.Disk().Files[0])+2000; limit++ {
			seen[collectFull(t, v, limit)]++
		}
	}
	for _, want := range []string{
		"5, some went false, made short false", // Compact refused
		"5, some went false, made short true",  // refused once more behind it
		"5, some went true, made short true",
		"0, some went true, made short true",
		"0, some went true, made short false",
	} {
		if seen[want] == 0 {
			t.Errorf("%s: there was none: %v", want, seen)
		}
	}
}

// collectFull holds a Collect on a shelf over a device's bytes with this limit, and tells how it went.
func collectFull(t *testing.T, v *journal.Device, limit int) string {
	t.Helper()
	b := bothOn(t, v.Disk(), limit)
	kept := keepsAll(b.s, nil)
	gone, compacts, ended := 0, 0, api.OK
	b.ask("P13.10", func(s *shelf.Shelf) string { return told(Collect(s, nil, all)) }, func(s *shelf.Shelf) string {
		labels, free, e := plainCollect(s, nil, all, func(what string) {
			if what == "compact" {
				compacts++
			}
		})
		gone, ended = len(labels), e
		return told(labels, free, e)
	})
	if keepsAll(b.s, nil) != kept {
		t.Fatalf("P13.11: limit %d: %s", limit, firstUnlike(keepsAll(b.s, nil), kept))
	}
	return fmt.Sprintf("%d, some went %v, made short %v", ended, gone > 0, compacts > 0)
}

// P13.10: with an error the labels and bytes of the groups that went are told all the same.
func TestCollectCutShort(t *testing.T) {
	s, v := world(t, "a bc cb d")
	// Numbers for two batches: the third group meets the end of them, and no Compact is tried.
	end := moved(t, s, v, 1, api.MaxNumber-1)
	x := mustOpen(t, end, 1<<22)
	labels, free, e := Collect(x, nil, all)
	if lettersOf(labels) != "abc" || free != 360 || e != api.ErrEnd || lettersOf(x.List()) != "d" || end.Count() != 4 {
		t.Errorf("P13.10: %s, %d, %d, %d operations", lettersOf(labels), free, e, end.Count())
	}
	was := markOf(x, end)
	if labels, free, e := Collect(x, nil, all); len(labels) != 0 || free != 0 || e != api.ErrEnd {
		t.Errorf("P13.10: %s, %d, %d", lettersOf(labels), free, e)
	}
	unchanged(t, "P13.10: none went", x, end, was)
	if labels, free, e := Collect(x, labelsOf("d"), all); len(labels) != 0 || free != 0 || e != api.OK {
		t.Errorf("P13.10: %s, %d, %d", lettersOf(labels), free, e)
	}
	// No number for another generation: Compact's own error is told.
	end = moved(t, s, v, api.MaxNumber, 1)
	x = mustOpen(t, end, len(end.Disk().Files[0])+150)
	labels, free, e = Collect(x, nil, all)
	if lettersOf(labels) != "a" || free != 120 || e != api.ErrEnd || lettersOf(x.List()) != "bcd" {
		t.Errorf("P13.10: %s, %d, %d", lettersOf(labels), free, e)
	}
}

// P13.10: where Compact is called it is called once for each transaction that is refused, and what it makes short stays so.
func TestCollectCompacts(t *testing.T) {
	s, v := world(t, "a b c d e f")
	for s.Stat().Room > 1<<22-3000 {
		mustApply(t, s) // batches that say nothing
	}
	x, w := again(t, v, s.Stat().Journal+10)
	labels, free, e := Collect(x, nil, all)
	if lettersOf(labels) != "abcdef" || free != 720 || e != api.OK {
		t.Errorf("P13.10: %s, %d, %d", lettersOf(labels), free, e)
	}
	story, _, _, _ := journal.Replay(w.Disk())
	if story.Gen != 2 || len(story.Batches) != 6 || len(story.Base) == 0 {
		t.Errorf("P13.10: generation %d, %d batches", story.Gen, len(story.Batches))
	}
	x, w = again(t, v, s.Stat().Journal+10)
	was := markOf(x, w)
	if labels, free, e := Collect(x, nil, 0); len(labels) != 0 || free != 0 || e != api.OK {
		t.Errorf("P13.10: %s, %d, %d", lettersOf(labels), free, e)
	}
	unchanged(t, "P13.10: nothing is wanted", x, w, was)
}

// P13.11: wants one behind the other go through a beginning of what one want goes through.
func TestStepByStep(t *testing.T) {
	r := sourceOf(11)
	for range 150 {
		v := journal.NewDevice(api.Disk{})
		steps := anyWorld(r, 2+r.IntN(12))
		mustApply(t, mustOpen(t, v, 1<<22), steps...)
		extra := []api.Label{steps[r.IntN(len(steps))].Object.Label}
		s, _ := again(t, v, 1<<22)
		kept := keepsAll(s, extra)
		groups := Plan(s, extra, all)
		whole, _, e := Collect(s, extra, all)
		if e != api.OK || !slices.Equal(whole, slices.Concat(groups...)) {
			t.Fatalf("P13.10: %s, %d", showLabels(whole), e)
		}
		end := tell(s)
		for _, wants := range [][]int{{1, 1}, {1 + r.IntN(500), 1 + r.IntN(500)}, {0, 1}, {1, 0}, slices.Repeat([]int{1}, len(groups))} {
			s, _ := again(t, v, 1<<22)
			var gone []api.Label
			ends := 0
			for _, want := range wants {
				labels, _, e := Collect(s, extra, want)
				if e != api.OK {
					t.Fatalf("P13.10: %d", e)
				}
				if len(labels) == 0 && want > 0 && len(gone) < len(whole) {
					t.Fatalf("P13.11: a want of %d takes nothing", want)
				}
				gone = append(gone, labels...)
				for ends < len(groups) && len(slices.Concat(groups[:ends]...)) < len(gone) {
					ends++
				}
				if !slices.Equal(gone, slices.Concat(groups[:ends]...)) {
					t.Fatalf("P13.11: %s, want the first groups of %s", showLabels(gone), showLabels(whole))
				}
				if keepsAll(s, extra) != kept {
					t.Fatalf("P13.11: %s", firstUnlike(keepsAll(s, extra), kept))
				}
			}
			if _, _, e := Collect(s, extra, all); e != api.OK || tell(s) != end {
				t.Fatalf("P13.11: %d, %s", e, firstUnlike(tell(s), end))
			}
		}
	}
}

// at is how a Collect stands when so many operations are done.
type at struct {
	count int
	told  string
}

// crash holds P13.12 for a Collect on a shelf over a device's bytes: at every moment, with every number of loose bytes.
func crash(t *testing.T, v *journal.Device, limit int, extra []api.Label) (moments, compacts int) {
	t.Helper()
	b := bothOn(t, v.Disk(), limit)
	kept := keepsAll(b.s, extra)
	from := b.v.Count()
	states := []at{{from, tell(b.s)}} // ahead of it, and behind each transaction
	b.ask("P13.10", func(s *shelf.Shelf) string { return told(Collect(s, extra, all)) }, func(s *shelf.Shelf) string {
		return told(plainCollect(s, extra, all, func(what string) {
			if what == "compact" {
				compacts++
			}
			states = append(states, at{b.w.Count(), tell(s)})
		}))
	})
	whole, _ := again(t, v, 1<<22)
	if _, _, e := Collect(whole, extra, all); e != api.OK {
		t.Fatalf("P13.10: %d", e)
	}
	end := tell(whole)
	for n := from; n <= b.v.Count(); n++ {
		everything, _ := b.v.At(n, [2]int{1 << 30, 1 << 30})
		safe, _ := b.v.At(n, [2]int{})
		loose := [2]int{len(everything.Files[0]) - len(safe.Files[0]), len(everything.Files[1]) - len(safe.Files[1])}
		for i := range loose[0] + 1 {
			for j := range loose[1] + 1 {
				d, _ := b.v.At(n, [2]int{i, j})
				s := mustOpen(t, journal.NewDevice(d), 1<<22)
				if got, want := tell(s), stateAt(states, n, i == loose[0] && j == loose[1]); got != want {
					t.Fatalf("P13.12: behind %d operations, %d and %d loose: %s", n, i, j, firstUnlike(got, want))
				}
				if keepsAll(s, extra) != kept {
					t.Fatalf("P13.12: behind %d operations: %s", n, firstUnlike(keepsAll(s, extra), kept))
				}
				holdClosed(t, s)
				if _, _, e := Collect(s, extra, all); e != api.OK || tell(s) != end {
					t.Fatalf("P13.12: behind %d operations, collected: %d, %s", n, e, firstUnlike(tell(s), end))
				}
				moments++
			}
		}
	}
	return moments, compacts
}

// stateAt is what is there when n operations are done: behind each transaction that has been done, and behind the one
// that is under way if all of its bytes are there.
func stateAt(states []at, n int, whole bool) string {
	want := states[0].told
	for i, x := range states {
		if n >= x.count || whole && i > 0 && n > states[i-1].count {
			want = x.told
		}
	}
	return want
}

// holdClosed holds that references lead to objects that are there.
func holdClosed(t *testing.T, s *shelf.Shelf) {
	t.Helper()
	for _, o := range objectsOf(s) {
		for _, l := range o.Refs {
			if !s.Has(l) {
				t.Fatalf("P13.12: %s lacks %s", textOf(o.Label), textOf(l))
			}
		}
	}
}

// P13.12, W9: over crashes.
func TestCrash(t *testing.T) {
	s, v := richWorld(t)
	if n, _ := crash(t, v, 1<<22, nil); n < 500 {
		t.Errorf("%d moments", n)
	}
	if n, _ := crash(t, v, 1<<22, labelsOf("cz")); n < 100 {
		t.Errorf("%d moments", n)
	}
	for s.Stat().Room > 1<<22-4000 {
		mustApply(t, s) // batches that say nothing, so that making short makes room
	}
	for _, room := range []int{0, 100, 200, 300} {
		if n, compacts := crash(t, v, s.Stat().Journal+room, nil); n < 500 || compacts == 0 {
			t.Errorf("%d moments, %d times made short", n, compacts)
		}
	}
}

// Keep, Release, Advance, Switch, Trim: one transaction each, or none: at every moment the shelf is as it was ahead of
// the call or as it is behind it.
func TestBeforeOrAfter(t *testing.T) {
	s, v := world(t, "a b")
	for i, ask := range []func(){
		func() { Keep(s, "r", named('a')) }, func() { Keep(s, "r", named('b')) }, func() { Advance(s, "p", named('a')) }, func() { Advance(s, "p", named('b')) },
		func() { Switch(s, "p", 1) }, func() { Advance(s, "p", named('b')) }, func() { Trim(s, "p", 0) }, func() { Release(s, "r") },
	} {
		from, before := v.Count(), tell(s)
		ask()
		after := tell(s)
		if v.Count() != from+2 || before == after {
			t.Errorf("call %d: %d operations", i, v.Count()-from)
		}
		everything, _ := v.At(from+1, [2]int{1 << 30, 1 << 30})
		safe, _ := v.At(from+1, [2]int{})
		live := s.Stat() // the live file is the first one: nothing was made short
		for loose := range len(everything.Files[0]) - len(safe.Files[0]) + 1 {
			d, _ := v.At(from+1, [2]int{loose, 0})
			want := before
			if len(d.Files[0]) == live.Journal {
				want = after
			}
			if got := tell(mustOpen(t, journal.NewDevice(d), 1<<22)); got != want {
				t.Fatalf("W7: call %d, %d bytes loose: %s", i, loose, firstUnlike(got, want))
			}
		}
	}
}

// W9: power failures life behind life: collecting goes on until all that is dead has gone, and nothing else ever goes.
func TestCrashAgain(t *testing.T) {
	r := sourceOf(99)
	for range 60 {
		v := journal.NewDevice(api.Disk{})
		s := mustOpen(t, v, 1<<22)
		steps := anyWorld(r, 4+r.IntN(10))
		mustApply(t, s, steps...)
		Keep(s, "r", steps[0].Object.Label)
		Advance(s, "p", steps[1].Object.Label)
		whole, _ := again(t, v, 1<<22)
		Collect(whole, nil, all)
		kept, end := keepsAll(s, nil), tell(whole)
		d := v.Disk()
		for range 6 {
			v := journal.NewDevice(d)
			s := mustOpen(t, v, 1<<22)
			from := v.Count()
			Collect(s, nil, all)
			d, _ = v.At(from+r.IntN(v.Count()-from+1), [2]int{r.IntN(120), r.IntN(120)})
			left := mustOpen(t, journal.NewDevice(d), 1<<22)
			holdClosed(t, left)
			if keepsAll(left, nil) != kept {
				t.Fatalf("W9: %s", firstUnlike(keepsAll(left, nil), kept))
			}
		}
		last := mustOpen(t, journal.NewDevice(d), 1<<22)
		if _, _, e := Collect(last, nil, all); e != api.OK || tell(last) != end {
			t.Fatalf("W9: %d, %s", e, firstUnlike(tell(last), end))
		}
	}
}

// Any calls, on journals with much and with little room, over openings: each as the chapter says.
func TestAnyScript(t *testing.T) {
	r := sourceOf(13)
	errors := map[api.Errno]int{}
	for range 150 {
		limit := 400 + r.IntN(2500)
		b := bothOn(t, api.Disk{}, limit)
		labels := append(labelsOf("abcdefgh"), api.Label{}, api.Label{Hash: named('a').Hash, Name: "other"})
		names := []string{"p", "q", "r", "", ".x"}
		anyLabel := func() api.Label { return labels[r.IntN(len(labels))] }
		anyName := func() string { return names[r.IntN(len(names))] }
		for range 60 {
			switch r.IntN(14) {
			case 0, 1, 2:
				var refs []api.Label
				if r.IntN(2) == 0 {
					refs = append(refs, labels[r.IntN(8)])
				}
				errors[b.apply(put(labels[r.IntN(8)], string("ABC"[r.IntN(3)]), refs...))]++
			case 3:
				b.apply(takeOff(anyLabel()))
			case 4:
				b.apply(setTo([]string{"profile:", "root:"}[r.IntN(2)]+names[r.IntN(3)], []string{"", "x", textOf(labels[0]), valueOf(2, 3, gen(2, 'a'), gen(3, 'b')), valueOf(0, api.MaxGen)}[r.IntN(5)]))
			case 5:
				b.keep(anyName(), anyLabel())
			case 6:
				b.release(anyName())
			case 7, 8:
				b.advance(anyName(), anyLabel())
			case 9:
				b.switchTo(anyName(), r.IntN(6)-1)
			case 10:
				b.trim(anyName(), r.IntN(5)-1)
			case 11, 12:
				b.plan([]api.Label{anyLabel()}, r.IntN(300))
				b.collect([]api.Label{anyLabel()}, []int{0, 1, 130, all}[r.IntN(4)])
			case 13:
				if b.s.Compact() != b.p.Compact() {
					t.Fatalf("P12.2")
				}
				b = bothOn(t, b.v.Disk(), limit)
			}
			b.looks([]api.Label{anyLabel()})
		}
	}
	if errors[api.OK] < 100 || errors[api.ErrFull] < 100 {
		t.Errorf("the scripts are too tame: %v", errors)
	}
}
