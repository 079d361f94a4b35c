package sweep

import (
	"fmt"
	"math"
	"slices"
	"testing"

	"graft/api"
	"graft/journal"
	"graft/shelf"
)

// P13.8: what is live, and what is not.
func TestLive(t *testing.T) {
	const words = "ab bc c de ed fg g"
	y := named('y')
	for i, x := range []struct {
		roots, gens string
		extra       []api.Label
		want        string
	}{
		{"", "", nil, ""},
		{"", "", []api.Label{}, ""},
		{"a", "", nil, "abc"},
		{"", "a", nil, "abc"},
		{"", "", labelsOf("a"), "abc"},
		{"", "", labelsOf("b"), "bc"},
		{"c", "", nil, "c"},
		{"d", "", nil, "de"},
		{"", "", labelsOf("e"), "de"},
		{"", "bd", nil, "bcde"}, // all generations, the present one as well as the others
		{"", "dgb", nil, "bcdeg"},
		{"ff", "ff", labelsOf("fff"), "fg"}, // the same label again and again
		{"b", "e", labelsOf("f"), "bcdefg"},
		{"gfedcba", "", nil, "abcdefg"},
		{"", "", labelsOf("yzyz"), ""}, // none of them is on the shelf
		{"", "", []api.Label{y, named('g'), y}, "g"},
		{"", "", []api.Label{{}, {Hash: named('a').Hash, Name: "b"}, {Hash: named('a').Hash}, {Name: "a"}, {Hash: named('a').Hash, Name: "a b"}}, ""},
	} {
		s, v := world(t, words)
		for k, l := range labelsOf(x.roots) {
			if e := Keep(s, fmt.Sprint("r", k), l); e != api.OK {
				t.Fatalf("P13.1: %d", e)
			}
		}
		for _, l := range labelsOf(x.gens) {
			Advance(s, "p", l)
		}
		was := markOf(s, v)
		if got := Live(s, x.extra); lettersOf(got) != x.want {
			t.Errorf("P13.8: %d: %s, want %s", i, lettersOf(got), x.want)
		}
		unchanged(t, "P13.8: a look", s, v, was)
	}
}

// P13.8: keepers whose labels are not on the shelf keep nothing; beside others they do no harm. With none present a
// profile keeps its generations all the same.
func TestLiveOfGone(t *testing.T) {
	s, _ := world(t, "a b c", setTo("root:gone", textOf(named('z'))), setTo("profile:gone", valueOf(2, 2, gen(1, 'y'), gen(2, 'z'))))
	if got := lettersOf(Live(s, nil)); got != "" {
		t.Errorf("P13.8: %s", got)
	}
	mustApply(t, s, setTo("profile:p", valueOf(0, 3, gen(1, 'z'), gen(2, 'a'), gen(3, 'y'))), setTo("root:aaa", textOf(named('c'))))
	if got := lettersOf(Live(s, labelsOf("z"))); got != "ac" {
		t.Errorf("P13.8: %s", got)
	}
	mustApply(t, s, put(named('z'), "z", named('b'))) // what comes back is kept again
	if got := lettersOf(Live(s, nil)); got != "abcz" {
		t.Errorf("P13.8: %s", got)
	}
}

// P13.9: the groups and their order.
func TestPlan(t *testing.T) {
	for _, x := range []struct{ what, words, live, want string }{
		{"nothing", "", "", ""},
		{"all live", "ab b", "a", ""},
		{"one", "a", "", "a"},
		{"one that refers to itself", "aa", "", "a"},
		{"none refers to another", "c b a", "", "a b c"},
		{"a chain, downwards", "ab bc cd d", "", "a b c d"},
		{"a chain, upwards", "a ba cb dc", "", "d c b a"},
		{"a ring of two", "ab ba", "", "ab"},
		{"a ring of three, the other way round", "ac ba cb", "", "abc"},
		{"two rings", "ac ca bd db", "", "ac bd"},
		{"two rings woven together", "ab bac cd dcb", "", "abcd"},
		{"two rings with one member in common", "ab bac cb", "", "abc"},
		{"a ring that leads to a ring", "cd dca ab ba", "", "cd ab"},
		{"a ring that leads to a ring, by one between", "ef fed dab ab ba", "", "ef d ab"},
		{"a ring behind one", "zab ab ba", "", "z ab"},
		{"what is shared goes last", "ax bx x", "", "a b x"},
		{"a lesser one becomes ready", "a b ca d", "", "b c a d"},
		{"a lesser one becomes ready, again and again", "a ba cb e dc f", "", "d c b a e f"},
		{"a ring becomes ready by its least member", "ad da ca b e", "", "b c ad e"},
		{"the least label of a ring counts", "az za b", "", "az b"},
		{"what a live one needs stays", "ax bx x c", "b", "a c"},
		{"references to live ones", "ax xx bxy y", "xy", "a b"},
		{"a ring that refers to itself", "aab bab", "", "ab"},
		{"two ways to one", "abc bd cd d", "", "a b c d"},
		{"two ways to one, upwards", "dbc ba ca a", "", "d b c a"},
	} {
		s, v := world(t, x.words)
		was := markOf(s, v)
		extra := labelsOf(x.live)
		if got := groupsOf(Plan(s, extra, all)); got != x.want {
			t.Errorf("P13.9: %s: %s, want %s", x.what, got, x.want)
		}
		for _, want := range []int{0, -1, math.MinInt} {
			if got := Plan(s, extra, want); len(got) != 0 {
				t.Errorf("P13.9: %s: with want %d: %s", x.what, want, groupsOf(got))
			}
		}
		unchanged(t, "P13.9: a look", s, v, was)
		b := bothOn(t, v.Disk(), 1<<22)
		for want := range 7 {
			b.plan(extra, 120*want-1)
			b.plan(extra, 120*want)
			b.plan(extra, 120*want+1)
		}
		b.plan(extra, math.MaxInt)
	}
}

// holdWants holds plans of each want that makes a difference: each sum of what the first groups free, one less, one more.
func holdWants(t *testing.T, s *shelf.Shelf, v *journal.Device, extra []api.Label, sums ...int) {
	t.Helper()
	groups := Plan(s, extra, all)
	if len(groups) != len(sums) {
		t.Fatalf("P13.9: %s", groupsOf(groups))
	}
	b := bothOn(t, v.Disk(), 1<<22)
	for _, sum := range sums {
		for _, want := range []int{sum - 1, sum, sum + 1} {
			k := 0 // how many groups are named
			for k < len(groups) && want > 0 && (k == 0 || sums[k-1] < want) {
				k++
			}
			if got := Plan(s, extra, want); groupsOf(got) != groupsOf(groups[:k]) {
				t.Errorf("P13.9: want %d: %s, want %s", want, groupsOf(got), groupsOf(groups[:k]))
			}
			b.plan(extra, want)
			c := bothOn(t, v.Disk(), 1<<22)
			freed := 0
			if k > 0 {
				freed = sums[k-1]
			}
			if got, want := c.collect(extra, want), told(slices.Concat(groups[:k]...), freed, api.OK); got != want {
				t.Errorf("P13.10: %s, want %s", got, want)
			}
		}
	}
}

// P13.9: what groups free: archives that are shared within a group, with a live object, with one that goes later.
func TestFree(t *testing.T) {
	a, b, c, d, e := named('a'), named('b'), named('c'), named('d'), named('e')
	many := func(n int) string { return string(slices.Repeat([]byte("x"), n)) } // an archive of 112 bytes and these
	for _, x := range []struct {
		what  string
		steps []api.Step
		live  []api.Label
		sums  []int // what the first groups free, of one, of two, and so on
	}{
		{"unlike ones", puts("a b c"), nil, []int{120, 240, 360}},
		{"unlike sizes", []api.Step{put(a, many(9)), put(b, many(1)), put(c, many(888))}, nil, []int{128, 248, 1248}},
		{"two groups have one archive", []api.Step{put(a, "x"), put(b, "x"), put(c, "c")}, nil, []int{0, 120, 240}},
		{"the last of three frees it", []api.Step{put(a, "x"), put(b, "x"), put(c, "x")}, nil, []int{0, 0, 120}},
		{"a ring has one archive", []api.Step{put(a, "x", b), put(b, "x", a), put(c, "c")}, nil, []int{120, 240}},
		{"a ring of three has two", []api.Step{put(a, "x", b), put(b, "y", c), put(c, "x", a)}, nil, []int{240}},
		{"shared with a live one", []api.Step{put(a, "x"), put(b, "x"), put(c, "c")}, []api.Label{b}, []int{0, 120}},
		{"shared with a live one, all of it", []api.Step{put(a, "x"), put(b, "x"), put(c, "x"), put(d, "x")}, []api.Label{d}, []int{0, 0, 0}},
		{"a ring that shares with one that goes later", []api.Step{put(a, "x", b), put(b, "y", a), put(c, "y"), put(d, "d")}, nil, []int{120, 240, 360}},
		{"two dead ones with one that is live, another with none", []api.Step{put(a, "x"), put(b, "x"), put(c, "y"), put(d, "y"), put(e, "x")}, []api.Label{e}, []int{0, 0, 0, 120}},
		{"nothing for long", []api.Step{put(a, "x"), put(b, "y"), put(c, "x"), put(d, "y")}, nil, []int{0, 0, 120, 240}},
		{"with no bytes of a file", []api.Step{put(a, ""), put(b, "b")}, nil, []int{112, 232}},
	} {
		s, v := world(t, "", x.steps...)
		t.Run(x.what, func(t *testing.T) { holdWants(t, s, v, x.live, x.sums...) })
	}
}

// P13.9: makers, sames and mades lead nowhere: what they name is not kept alive by them.
func TestOtherTies(t *testing.T) {
	o := put(named('a'), "a")
	o.Object.Maker = textOf(named('b'))
	s, _ := world(t, "b c", o,
		api.Step{Kind: api.StepSame, Same: api.Same{Old: named('a'), New: named('c')}}, api.Step{Kind: api.StepMade, Made: api.Made{Key: "k", Label: named('b')}})
	if got := lettersOf(Live(s, labelsOf("a"))); got != "a" {
		t.Errorf("P13.8: %s", got)
	}
	if got := groupsOf(Plan(s, labelsOf("a"), all)); got != "b c" {
		t.Errorf("P13.9: %s", got)
	}
}

// anyWorld is steps that put some objects with any references between them, and archives that some of them share.
func anyWorld(r interface{ IntN(int) int }, n int) []api.Step {
	var labels []api.Label
	for i := range n {
		if r.IntN(2) == 0 {
			labels = append(labels, named(byte('a'+i)))
		} else {
			labels = append(labels, numbered(r.IntN(1000)*100+i))
		}
	}
	edges := 1 + r.IntN(3)
	var out []api.Step
	for _, l := range labels {
		var refs []api.Label
		for range r.IntN(edges + 1) {
			refs = append(refs, labels[r.IntN(n)])
		}
		out = append(out, put(l, string(slices.Repeat([]byte{byte('A' + r.IntN(n))}, r.IntN(40))), refs...))
	}
	return out
}

// P13.8 to P13.10: any shelf, any keepers, any want.
func TestAnyPlan(t *testing.T) {
	r := sourceOf(9)
	for range 400 {
		n := 1 + r.IntN(14)
		steps := anyWorld(r, n)
		v := journal.NewDevice(api.Disk{})
		mustApply(t, mustOpen(t, v, 1<<22), steps...)
		b := bothOn(t, v.Disk(), 1<<22)
		var extra []api.Label
		for range r.IntN(3) {
			l := steps[r.IntN(n)].Object.Label
			switch r.IntN(3) {
			case 0:
				b.keep(fmt.Sprint("r", r.IntN(3)), l)
			case 1:
				b.advance("p", l)
			case 2:
				extra = append(extra, l)
			}
		}
		b.looks(extra)
		for _, want := range []int{1, 100 + r.IntN(50), r.IntN(2000), all} {
			b.plan(extra, want)
		}
		for _, want := range []int{1, r.IntN(400), all} {
			b.collect(extra, want)
			b.looks(extra)
		}
		if got, want := showLabels(b.s.List()), showLabels(Live(b.s, extra)); got != want {
			t.Fatalf("P13.11: %s, want %s", got, want)
		}
	}
}
