package depot

import (
	"slices"
	"strings"
	"testing"

	"graft/api"
)

// 17.7, the examples: a refers to b; both are on the shelf.

func TestExamplesOfPush(t *testing.T) {
	b := newBoth(t, two()...)
	a := []api.Label{la}
	none, gz := b.pushes(nil, a, "none"), b.pushes(nil, a, "gzip")
	for files, tail := range map[*[]api.DepotFile]string{&none: ".ark", &gz: ".ark.gz"} {
		arks, cards := 0, 0
		for _, f := range *files {
			switch {
			case strings.HasPrefix(f.Name, "ark/") && strings.HasSuffix(f.Name, tail):
				arks++
			case f.Name == cardOf(la) || f.Name == cardOf(lb) || f.Name == "depot.card":
				cards++
			}
		}
		if len(*files) != 5 || arks != 2 || cards != 3 {
			t.Errorf("the example 1: %s", namesOf(*files))
		}
	}
	one := newBoth(t, holds(la, "x", lb), holds(lb, "x"))
	if got := one.pushes(nil, a, "none"); len(got) != 4 {
		t.Errorf("the example 1: one archive: %s", namesOf(got))
	}
	if showFiles(b.pushes(none, a, "none")) != showFiles(none) || showFiles(b.pushes(none, a, "gzip")) != showFiles(none) {
		t.Error("the example 2")
	}
	marked := b.pushes(none, a, "none", home)
	for _, l := range []api.Label{la, lb} {
		if len(cardIn(marked, l).Marks) != len(cardIn(none, l).Marks)+1 {
			t.Errorf("the example 3: %v", cardIn(marked, l).Marks)
		}
	}
	if showFiles(b.pushes(marked, a, "none", home)) != showFiles(marked) {
		t.Error("the example 3: again")
	}
}

func TestExamplesOfPull(t *testing.T) {
	files := newBoth(t, two()...).pushes(nil, []api.Label{la}, "none", home)
	a := []api.Label{la}
	newBoth(t).pulls("the example 4", files, a, []api.Label{la, lb})
	newBoth(t).refusesPull("the example 4: another secret", files, a, api.ErrTrust, la, keyOf("k", "t"))
	gone := without(files, cardOf(lb))
	newBoth(t).refusesPull("the example 5", gone, a, api.ErrNone, lb)
	if got, e := lacked(t, gone, la); e != api.OK || !slices.Equal(got, []string{baseOf(lb)}) {
		t.Errorf("the example 5: %q, %d", got, e)
	}
	newBoth(t, two()...).pulls("the example 5: a is there", gone, a, nil)
	url := cardIn(files, lb).Url
	bad := with(files, url, spoil(dataOf(files, url), 100))
	newBoth(t).refusesPull("the example 6", bad, a, api.ErrDiffer, lb)
	finds(t, "the example 6", bad, api.ErrDiffer, cardOf(lb))
	newBoth(t).refusesPull("the example 8", nil, a, api.ErrDepot, api.Label{})
	ring := ownGroup(ringOf(1, byNumber)...)
	word := turned(depotOf(ring...), ring[0].Label, func(c *api.Card) { c.Ca = "text" })
	newBoth(t).refusesPull("the example 9", word, labelsIn(ring), api.ErrWrong, ring[0].Label)
	twice := append(copied(files), files[0])
	newBoth(t).refusesPull("the example 10", twice, a, api.ErrDepot, api.Label{})
	newBoth(t, two()...).refusesPush("the example 10", twice, a, nil, "none", api.ErrDepot, api.Label{})
	finds(t, "the example 10", twice, api.ErrDepot, files[0].Name)
}

func TestExamplesOfOthers(t *testing.T) {
	b := newBoth(t, two()...)
	right := b.pushes(nil, []api.Label{la}, "none")
	files := with(right, "note.txt", []byte("x"))
	finds(t, "the example 7", files, api.ErrDepot, "note.txt")
	if got := b.pushes(files, []api.Label{la}, "none"); showFiles(got) != showFiles(sortedFiles(files)) {
		t.Errorf("the example 7: %s", namesOf(got))
	}
	newBoth(t).pulls("the example 7", files, []api.Label{la}, []api.Label{la, lb})
	if got, e := pruned(t, files, la); e != api.OK || showFiles(got) != showFiles(right) {
		t.Errorf("the example 7: %s, %d", namesOf(got), e)
	}
	if got := b.pushes(nil, nil, "none"); namesOf(got) != "depot.card" {
		t.Errorf("the example 8: %s", namesOf(got))
	}
}

// The example 3's files, as another program made them.
func TestExampleBytes(t *testing.T) {
	files := newBoth(t, two()...).pushes(nil, []api.Label{la}, "none", home)
	want := `"040h2081040h2081040h2081040h2081.card" 391 65aa667e60a762974b80f0fa03f3e2ea5635426aa6f1ef18fe69f38260210e00
"081040h2081040h2081040h2081040h2.card" 356 ee6ceded0ddd3aedc726c86483d402e33da5290ece26217546fced809dc091a5
"ark/1cqhi9lx7488p458s2v678dqljlljjylzddmaj1lnjg2w78vg2ar.ark" 152 5989b7d1e1e2494b8354b5b54fbd94944a8a1b3a660b8d0ab90891d3698a10b3
"ark/1jib7psp81yyqvqh2bqz90igyvb57lpfabnz1hm95invipx3f95l.ark" 120 b42437fa8ddbc6922a0cdf2ee52e3d656dff22481f2f01f1c6de0774f53d2bca
"depot.card" 41 2bedf4c552f5968152cd4c6f54b9f68292cb979e82149a0815f40ddeb435d120
`
	if got := showFiles(files); got != want {
		t.Errorf("%s\nwant %s", got, want)
	}
	text := `Label: /graft/store/040h2081040h2081040h2081040h2081-a
Url: ark/1cqhi9lx7488p458s2v678dqljlljjylzddmaj1lnjg2w78vg2ar.ark
Press: none
FileSum: sha256:1cqhi9lx7488p458s2v678dqljlljjylzddmaj1lnjg2w78vg2ar
FileSize: 152
ArkSum: sha256:1cqhi9lx7488p458s2v678dqljlljjylzddmaj1lnjg2w78vg2ar
ArkSize: 152
Refs: 081040h2081040h2081040h2081040h2-b
Mark: k:LQ8CDywy7S7sMwgAyLON6y3Hmu6DPVfrcb68vzOq+9c=
`
	if got := string(dataOf(files, cardOf(la))); got != text {
		t.Errorf("%s\nwant %s", got, text)
	}
}
