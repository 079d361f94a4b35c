package card

import (
	"fmt"
	"slices"
	"strings"
	"testing"

	"graft/api"
)

func keyOf(name, secret string) api.Key { return api.Key{Name: name, Secret: []byte(secret)} }

// signed is a card with the marks of some keys.
func signed(t *testing.T, c api.Card, keys ...api.Key) api.Card {
	t.Helper()
	for _, k := range keys {
		var e api.Errno
		if c, e = Sign(c, k); e != api.OK {
			t.Fatalf("Sign by %s: %d", k.Name, e)
		}
	}
	return c
}

// P10.5: the text, written out.
func TestSays(t *testing.T) {
	c := full()
	want := "card-1;" + textL + ";" + sumS + ";1048576;" + baseB + "," + zeros + "-x.1," + zeros[1:] + "1-a;" + zeros + "-x.recipe;group"
	if said, e := Says(c); said != want || e != api.OK {
		t.Errorf("P10.5: Says = %q, %d, want %q", said, e, want)
	}
}

// P10.5: two cards say the same just if what matters is the same.
func TestSaysApart(t *testing.T) {
	z := zeros + "-"
	apart := []api.Card{}
	for _, label := range []string{textL, textL + "1", "/graft/store/" + zeros[1:] + "1-x"} {
		for _, sum := range []string{sumS, sumT} {
			for _, size := range []int{0, 1, 11} {
				for _, refs := range [][]string{nil, {z + "a"}, {z + "b"}, {z + "a", z + "b"}, {z + "a", z + "a-b"}} {
					for _, maker := range []string{"", z + "a", z + "b"} {
						for _, ca := range []string{"", "text", "source", "group", "flat"} {
							apart = append(apart, api.Card{Label: label, Url: "u", Press: "none", FileSum: sum, FileSize: size, ArkSum: sum, ArkSize: size, Refs: refs, Maker: maker, Ca: ca})
						}
					}
				}
			}
		}
	}
	seen := map[string]int{}
	for i, c := range apart {
		said, e := Says(c)
		if e != api.OK || said != plainSays(c) {
			t.Fatalf("P10.5: Says(%+v) = %q, %d", c, said, e)
		}
		if j, there := seen[said]; there {
			t.Fatalf("P10.5: %+v and %+v say the same", c, apart[j])
		}
		seen[said] = i
		// What the file is and who has signed it has no part in it.
		c.Url, c.Press, c.FileSum, c.FileSize, c.Marks = "other/u", "gzip", sumT, 77, marksBy(3)
		if again, e := Says(c); e != api.OK || again != said {
			t.Fatalf("P10.5: Says(%+v) = %q, %d, want %q", c, again, e, said)
		}
	}
}

// P10.6: the mark in its place among the others.
func TestSignPlace(t *testing.T) {
	c := first()
	for i, name := range []string{"m", "a", "z", "M", "ma", "l", "-", "zz", "m.", "0", "a0", "Z", "=", "_", "?", "b"} {
		before := len(c.Marks)
		k := keyOf(name, fmt.Sprint("secret ", i))
		holdSign(t, c, k)
		c = signed(t, c, k)
		if len(c.Marks) != before+1 || !slices.IsSortedFunc(c.Marks, func(a, b api.Mark) int { return strings.Compare(a.Key, b.Key) }) {
			t.Errorf("P10.6: marks %v", c.Marks)
		}
		if text, e, _ := Print(c); e != api.OK || strings.Count(text, "Mark: ") != before+1 {
			t.Errorf("P10.6: %d, %q", e, text)
		}
	}
	// 16 marks: one more name is refused, a name that is there is not.
	for _, name := range []string{"n", "!", "aa", "zzz", "+"} {
		holdSign(t, c, keyOf(name, "s"))
		if got, e := Sign(c, keyOf(name, "s")); name != "!" && (e != api.ErrFull || !same(got, api.Card{})) {
			t.Errorf("P10.6: a 17th mark: %d", e)
		}
	}
	for i := range c.Marks {
		name := c.Marks[i].Key
		got, e := Sign(c, keyOf(name, "new"))
		if e != api.OK || len(got.Marks) != 16 || got.Marks[i].Key != name || got.Marks[i].Tag != plainTag("new", plainSays(c)) {
			t.Errorf("P10.6: %s signed again: %d, %v", name, e, got.Marks)
		}
		got.Marks[i] = c.Marks[i]
		if !same(got, c) {
			t.Errorf("P10.6: signing again as %s changed more than its mark", name)
		}
	}
	c.Marks = c.Marks[:15]
	holdSign(t, c, keyOf("zzz", "s"))
	if _, e := Sign(c, keyOf("zzz", "s")); e != api.OK {
		t.Errorf("P10.6: a 16th mark: %d", e)
	}
}

// P10.6: each error, and which goes ahead of which.
func TestSignErrors(t *testing.T) {
	fullMarks := first()
	fullMarks.Marks = marksBy(16)
	noField, noMark := fullMarks, fullMarks
	noField.Ca = "x"
	noMark.Marks = marksBy(17)
	n211 := strings.Repeat("n", 211)
	wrongNames := []string{"", ".k", "a b", "a:b", "é", "k\n", n211 + "n"}
	wrongSecrets := []string{"", strings.Repeat("s", 256), strings.Repeat("s", 1000)}
	refused := func(c api.Card, k api.Key, want api.Errno) {
		t.Helper()
		if got, e := Sign(c, k); e != want || !same(got, api.Card{}) || got.Refs != nil || got.Marks != nil {
			t.Errorf("P10.6: Sign by %.20q with %d bytes = %+v, %d, want %d", k.Name, len(k.Secret), got, e, want)
		}
	}
	for _, name := range append([]string{"k", "k00"}, wrongNames...) {
		for _, secret := range append([]string{"s"}, wrongSecrets...) {
			refused(noField, keyOf(name, secret), api.ErrField)
			refused(noMark, keyOf(name, secret), api.ErrMark)
			for _, c := range []api.Card{first(), full(), fullMarks} {
				holdSign(t, c, keyOf(name, secret))
			}
		}
	}
	for _, c := range []api.Card{first(), fullMarks} {
		for _, secret := range append([]string{"s"}, wrongSecrets...) {
			for _, name := range wrongNames {
				refused(c, keyOf(name, secret), api.ErrMark)
			}
		}
		for _, secret := range wrongSecrets {
			refused(c, keyOf("k", secret), api.ErrArg)
			refused(c, keyOf("k00", secret), api.ErrArg)
		}
	}
	refused(first(), api.Key{Name: "k"}, api.ErrArg)
	refused(fullMarks, keyOf("k", "s"), api.ErrFull)
	for _, k := range []api.Key{keyOf("k", "s"), keyOf(n211, "s"), keyOf("k", strings.Repeat("s", 255)), keyOf("k", "\x00"), keyOf("k", strings.Repeat("\x00", 255))} {
		signed(t, first(), k)
		holdSign(t, first(), k)
	}
}

// P10.6: secrets of every length.
func TestSignSecrets(t *testing.T) {
	for n := range 260 {
		holdSign(t, full(), keyOf("k", strings.Repeat("s", n)))
	}
}

// P10.7: which keys prove a card.
func TestProves(t *testing.T) {
	a, b, other := keyOf("a", "one"), keyOf("b", "two"), keyOf("a", "three")
	c := signed(t, full(), a, b)
	for what, x := range map[string]struct {
		c    api.Card
		keys []api.Key
		want bool
	}{
		"no key":                     {c, nil, false},
		"an empty list":              {c, []api.Key{}, false},
		"the first":                  {c, []api.Key{a}, true},
		"the second":                 {c, []api.Key{b}, true},
		"both":                       {c, []api.Key{b, a}, true},
		"another secret":             {c, []api.Key{other}, false},
		"two of one name":            {c, []api.Key{other, a}, true},
		"two of one name, turned":    {c, []api.Key{a, other}, true},
		"one that is not there":      {c, []api.Key{keyOf("c", "one")}, false},
		"one among others":           {c, []api.Key{keyOf("c", "one"), {}, keyOf("", ""), other, keyOf("b", "one"), b}, true},
		"one's secret by another":    {c, []api.Key{keyOf("a", "two"), keyOf("b", "one")}, false},
		"a mark by hand":             {c, []api.Key{keyOf("k", "secret")}, false},
		"the secret and a byte 0":    {c, []api.Key{keyOf("a", "one\x00")}, true},
		"the secret cut":             {c, []api.Key{keyOf("a", "on")}, false},
		"no secret":                  {c, []api.Key{{Name: "a"}}, false},
		"a card without marks":       {first(), []api.Key{a, b}, false},
		"a card that may not be one": {api.Card{}, []api.Key{a, b}, false},
	} {
		if got := Proves(x.c, x.keys); got != x.want {
			t.Errorf("P10.7: %s: %t", what, got)
		}
	}
}

// P10.7: of names and secrets nothing else is asked.
func TestProvesAnySecret(t *testing.T) {
	for _, secret := range []string{"", "\x00", strings.Repeat("s", 64), strings.Repeat("s", 65), strings.Repeat("s", 256), strings.Repeat("s", 5000)} {
		c := full()
		c.Marks[1].Tag = plainTag(secret, plainSays(c))
		if !Proves(c, []api.Key{keyOf("k", secret)}) {
			t.Errorf("P10.7: a secret of %d bytes", len(secret))
		}
		if Proves(c, []api.Key{keyOf("K", secret), keyOf("k2", secret), keyOf("", secret), keyOf("k ", secret)}) {
			t.Errorf("P10.7: a secret of %d bytes by another name", len(secret))
		}
		if Proves(c, []api.Key{keyOf("k", secret+"x")}) {
			t.Errorf("P10.7: another secret than one of %d bytes", len(secret))
		}
	}
}

// P10.7: a mark that is another's, and marks of which one is right.
func TestProvesMarks(t *testing.T) {
	a, b := keyOf("a", "one"), keyOf("b", "two")
	c := signed(t, first(), a, b)
	c.Marks[0].Tag, c.Marks[1].Tag = c.Marks[1].Tag, c.Marks[0].Tag
	if Proves(c, []api.Key{a}) || Proves(c, []api.Key{b}) || Proves(c, []api.Key{a, b}) {
		t.Error("P10.7: another's mark proves a card")
	}
	c.Marks[1].Tag = tagA
	if !Proves(c, []api.Key{keyOf("a", "two")}) || Proves(c, []api.Key{b}) {
		t.Error("P10.7: a mark proves by its own tag alone")
	}
	for i := range 16 {
		c := first()
		c.Marks = marksBy(16)
		c.Marks[i].Tag = plainTag("s", plainSays(c))
		for j := range 16 {
			if got := Proves(c, []api.Key{keyOf(c.Marks[j].Key, "s")}); got != (i == j) {
				t.Errorf("P10.7: the mark %d by the key %d: %t", i, j, got)
			}
		}
		c.Marks = append(c.Marks, api.Mark{Key: "l", Tag: tagA})
		if Proves(c, []api.Key{keyOf(c.Marks[i].Key, "s")}) {
			t.Error("P10.7: a card with 17 marks is proved")
		}
	}
}

// P10.7: a changed field of each kind.
func TestProvesChanged(t *testing.T) {
	k := keyOf("a", "one")
	for what, x := range map[string]struct {
		change func(c *api.Card)
		want   bool
	}{
		"nothing":             {func(c *api.Card) {}, true},
		"Label's hash":        {func(c *api.Card) { c.Label = "/graft/store/" + zeros[1:] + "1-x" }, false},
		"Label's name":        {func(c *api.Card) { c.Label += "1" }, false},
		"Url":                 {func(c *api.Card) { c.Url = "other" }, true},
		"FileSum":             {func(c *api.Card) { c.FileSum = sumS }, true},
		"FileSize":            {func(c *api.Card) { c.FileSize = 1 }, true},
		"Press":               {func(c *api.Card) { c.Press, c.FileSum, c.FileSize = "none", c.ArkSum, c.ArkSize }, true},
		"ArkSum":              {func(c *api.Card) { c.ArkSum = sumT }, false},
		"ArkSize":             {func(c *api.Card) { c.ArkSize-- }, false},
		"a reference less":    {func(c *api.Card) { c.Refs = c.Refs[1:] }, false},
		"a reference more":    {func(c *api.Card) { c.Refs = append(slices.Clone(c.Refs), strings.Repeat("z", 32)+"-z") }, false},
		"another reference":   {func(c *api.Card) { c.Refs = []string{c.Refs[0], c.Refs[1], c.Refs[2] + "a"} }, false},
		"Maker":               {func(c *api.Card) { c.Maker = "" }, false},
		"another Maker":       {func(c *api.Card) { c.Maker = baseB }, false},
		"Ca":                  {func(c *api.Card) { c.Ca = "flat" }, false},
		"no Ca":               {func(c *api.Card) { c.Ca = "" }, false},
		"other marks":         {func(c *api.Card) { c.Marks = c.Marks[1:2] }, true},
		"the mark":            {func(c *api.Card) { c.Marks = []api.Mark{c.Marks[0], {Key: "a", Tag: tagA}} }, false},
		"the mark's name":     {func(c *api.Card) { c.Marks = []api.Mark{{Key: "b", Tag: c.Marks[1].Tag}} }, false},
		"a Url that is none":  {func(c *api.Card) { c.Url = "" }, false},
		"a FileSum, none":     {func(c *api.Card) { c.FileSum = "" }, false},
		"a mark that is none": {func(c *api.Card) { c.Marks = append(slices.Clone(c.Marks), api.Mark{Key: "z", Tag: "AA=="}) }, false},
		"marks out of order":  {func(c *api.Card) { c.Marks = []api.Mark{c.Marks[1], c.Marks[0]} }, false},
	} {
		c := signed(t, full(), k)
		if c.Marks[1].Key != "a" {
			t.Fatalf("marks %v", c.Marks)
		}
		x.change(&c)
		if got := Proves(c, []api.Key{k}); got != x.want {
			t.Errorf("P10.7: with %s changed: %t", what, got)
		}
		if text, e, _ := Print(c); x.want && e == api.OK {
			if back, _, _ := Read(text); !Proves(back, []api.Key{k}) {
				t.Errorf("P10.7: with %s changed it is not proved as it is read", what)
			}
		}
	}
}
