package card

import (
	"strings"
	"testing"

	"graft/api"
)

// with is the first example's card, changed.
func with(change func(c *api.Card)) api.Card {
	c := first()
	change(&c)
	return c
}

// 10.6, the examples 1 to 4.
func TestExamplesOfCheck(t *testing.T) {
	for what, x := range map[string]struct {
		c api.Card
		e api.Errno
		n int
	}{
		"1":                 {first(), api.OK, 0},
		"2, FileSize 6":     {with(func(c *api.Card) { c.FileSize = 6 }), api.ErrField, 5},
		"2, the same, gzip": {with(func(c *api.Card) { c.FileSize, c.Press = 6, "gzip" }), api.OK, 0},
		"2, Press zip":      {with(func(c *api.Card) { c.Press = "zip" }), api.ErrField, 3},
		"2, another sum":    {with(func(c *api.Card) { c.FileSum = sumT }), api.ErrField, 4},
		"3, nothing":        {with(func(c *api.Card) { c.Url = "" }), api.ErrField, 2},
		"3, /x":             {with(func(c *api.Card) { c.Url = "/x" }), api.ErrField, 2},
		"3, x/":             {with(func(c *api.Card) { c.Url = "x/" }), api.ErrField, 2},
		"3, a//b":           {with(func(c *api.Card) { c.Url = "a//b" }), api.ErrField, 2},
		"3, .x":             {with(func(c *api.Card) { c.Url = ".x" }), api.ErrField, 2},
		"3, a b":            {with(func(c *api.Card) { c.Url = "a b" }), api.ErrField, 2},
		"3, a/b.c":          {with(func(c *api.Card) { c.Url = "a/b.c" }), api.OK, 0},
		"4, B, B":           {with(func(c *api.Card) { c.Refs = []string{baseB, baseB} }), api.ErrField, 8},
		"4, Maker L":        {with(func(c *api.Card) { c.Maker = textL }), api.ErrField, 9},
		"4, Ca fixed":       {with(func(c *api.Card) { c.Ca = "fixed" }), api.ErrField, 10},
		"4, a short tag":    {with(func(c *api.Card) { c.Marks = []api.Mark{{Key: "k", Tag: "AA=="}} }), api.ErrMark, 11},
	} {
		if e, n := Check(x.c); e != x.e || n != x.n {
			t.Errorf("the example %s: Check = %d, %d, want %d, %d", what, e, n, x.e, x.n)
		}
		text, e, n := Print(x.c)
		if e != x.e || n != x.n || (text == "") != (e != api.OK) {
			t.Errorf("the example %s: Print = %q, %d, %d", what, text, e, n)
		}
	}
	if text, _, _ := Print(first()); strings.Count(text, "\n") != 8 || !strings.HasSuffix(text, "\nRefs:\n") {
		t.Errorf("the example 1: %q", text)
	}
}

// 10.6, the examples 5 to 7.
func TestExamplesOfRead(t *testing.T) {
	n := len(firstText)
	for _, x := range []struct {
		text string
		e    api.Errno
		at   int
	}{
		{"", api.ErrShort, 0}, {"Label", api.ErrShort, 5}, {"label: x\n", api.ErrLine, 0}, {"Label: x\n", api.ErrShort, 9},
		{strings.Replace(firstText, "FileSize: 5", "FileSize: 05", 1), api.ErrField, strings.Index(firstText, "FileSize: ") + 10},
		{strings.Replace(firstText, "Refs:", "Refs: ", 1), api.ErrField, n - 1},
		{firstText + "x", api.ErrShort, n + 1}, {firstText + "Maker: \n", api.ErrField, n + 7}, {firstText + "Mark: x\n", api.ErrMark, n + 6},
	} {
		holdFault(t, x.text, x.e, x.at)
	}
}

// 10.6, the examples 8 and 9; the tags were made by another program.
func TestExamplesOfSign(t *testing.T) {
	if said, e := Says(first()); said != "card-1;"+textL+";"+sumS+";5;;;" || e != api.OK {
		t.Errorf("the example 8: %q, %d", said, e)
	}
	a, b := zeros+"-a", zeros+"-b"
	if said, e := Says(with(func(c *api.Card) { c.Refs, c.Ca = []string{a, b}, "text" })); said != "card-1;"+textL+";"+sumS+";5;"+a+","+b+";;text" || e != api.OK {
		t.Errorf("the example 8: %q, %d", said, e)
	}
	secret, other := keyOf("k", "secret"), keyOf("k", "other")
	x, e := Sign(first(), secret)
	if e != api.OK || len(x.Marks) != 1 || x.Marks[0] != (api.Mark{Key: "k", Tag: "fDtnPm91fAiS+77C6RLpNuF97TJFUlRibHlQYPzhGb8="}) || !Proves(x, []api.Key{secret}) {
		t.Errorf("the example 9: %v, %d", x.Marks, e)
	}
	y, e := Sign(x, other)
	if e != api.OK || len(y.Marks) != 1 || y.Marks[0] != (api.Mark{Key: "k", Tag: "hfYsd9slH3Uq0JNJIPB2JK9ZIPaxZ3TNIMF9MSo2O8Y="}) || Proves(y, []api.Key{secret}) || !Proves(y, []api.Key{other}) {
		t.Errorf("the example 9: %v, %d", y.Marks, e)
	}
	if _, e := Sign(first(), keyOf("k", "")); e != api.ErrArg {
		t.Errorf("the example 9: %d", e)
	}
	z, _ := Sign(with(func(c *api.Card) { c.Refs, c.Maker, c.Ca = []string{baseB, zeros + "-y"}, baseB, "text" }), secret)
	if len(z.Marks) != 1 || z.Marks[0].Tag != "1S6zmMYOz5rHyW6NV22gHy0lbDEPHLv9ZFwv39FaFI0=" {
		t.Errorf("a signed card with references: %v", z.Marks)
	}
}

// 10.6, the example 10.
func TestExamplesOfOwn(t *testing.T) {
	s := api.Sign{Store: "/graft/store", Mass: true, Priority: 40}
	if text, e := PrintSign(s); text != ownText || e != api.OK {
		t.Errorf("the example 10: %q, %d", text, e)
	}
	if back, e, at := ReadSign(ownText); back != s || e != api.OK || at != 0 {
		t.Errorf("the example 10: %+v, %d, %d", back, e, at)
	}
	holdOwnFault(t, strings.Replace(ownText, "40", "040", 1), api.ErrField, 38)
	holdOwnFault(t, ownText+"x\n", api.ErrTail, len(ownText))
}
