package forge

import (
	"fmt"
	"slices"
	"strings"
	"testing"

	"graft/api"
	"graft/ark"
	"graft/digest"
)

// toldRun is what Run answers.
func toldRun(trees []api.Node, e api.Errno, at int) string {
	out := fmt.Sprint(e, at)
	for _, n := range trees {
		out += "\n" + showTree(n)
	}
	return out
}

// showTree is a tree's nodes.
func showTree(n api.Node) string {
	if e, way := ark.Check(n); e != api.OK {
		return fmt.Sprintf("no tree: %d, %q", e, way)
	}
	var out []string
	for _, x := range ark.Flat(n) {
		out = append(out, fmt.Sprintf("%q %d %v %.80q(%d) %q", x.Way, x.Kind, x.Exec, x.Data, len(x.Data), x.Link))
	}
	return fmt.Sprintf("%.4000s %s", strings.Join(out, "; "), hexOf(arkFor(n)))
}

// runs holds what a recipe with the output out and the plain environment comes to, by the package and by the plain reading.
func runs(t *testing.T, e api.Errno, at int, tree api.Node, args ...string) {
	t.Helper()
	var trees []api.Node
	if e == api.OK {
		trees = []api.Node{tree}
	}
	runsTo(t, plainly(args...), nil, e, at, trees...)
}

func runsTo(t *testing.T, r api.Recipe, inputs []api.Object, e api.Errno, at int, trees ...api.Node) {
	t.Helper()
	want := toldRun(trees, e, at)
	if got := toldRun(Run(r, inputs)); got != want {
		t.Errorf("P14.2: Run of %.300q = %s\nwant %s", r.Args, got, want)
	}
	if got := toldRun(plainRun(r, inputs)); got != want {
		t.Errorf("the plain reading of %.300q = %s\nwant %s", r.Args, got, want)
	}
}

// fails holds that the last step fails, and no step ahead of it.
func fails(t *testing.T, args ...string) {
	t.Helper()
	runs(t, api.ErrStep, len(args)-1, api.Node{}, args...)
}

// checks holds what Check says of a step, behind one that is right.
func checks(t *testing.T, arg string, right bool) {
	t.Helper()
	r := plainly("dir out", arg)
	e, at := api.OK, 0
	if !right {
		e, at = api.ErrStep, 1
	}
	if got, n := Check(r); got != e || n != at {
		t.Errorf("P14.1: Check of %.80q = %d, %d, want %d, %d", arg, got, n, e, at)
	}
	if got, n := plainCheck(r); got != e || n != at {
		t.Errorf("the plain reading of %.80q = %d, %d, want %d, %d", arg, got, n, e, at)
	}
}

// Each verb: with what it takes, with a word missing, empty, one too many, a blank too many, with the rest missing and empty.
func TestForms(t *testing.T) {
	for verb, form := range plainForms {
		words, rest := strings.Count(form, "w"), strings.Contains(form, "r")
		full := verb + strings.Repeat(" w", words)
		checks(t, full, !rest)
		checks(t, full+" ", rest)
		checks(t, full+" x", rest)
		checks(t, full+"  x", rest)
		checks(t, full+" x ", rest)
		checks(t, full+" x y", rest)
		checks(t, full+" \x00\n\xff $$ \r ", rest)
		checks(t, full+"\x00", words > 0 && !rest) // a part of the last word
		checks(t, full+"\n", words > 0 && !rest)
		checks(t, verb, false)
		checks(t, " "+full, false)
		checks(t, strings.ToUpper(verb)+full[len(verb):], false)
		checks(t, verb[:len(verb)-1]+full[len(verb):], false)
		checks(t, verb+"s"+full[len(verb):], false)
		checks(t, verb+"\t"+full[len(verb):], false)
		for n := range words {
			head := verb + strings.Repeat(" w", n)
			checks(t, head, false)
			checks(t, head+" ", false)
			checks(t, head+"  "+strings.Repeat(" w", words-n-1)+" r", false)     // an empty word
			checks(t, head+"  w"+strings.Repeat(" w", words-n-1), false)         // a blank too many ahead of a word
			checks(t, head+" \xff\x01\t"+strings.Repeat(" w", words-n-1), !rest) // any bytes but blanks
		}
	}
	for _, arg := range []string{"", " ", "x", "x out", "Dir out", "dir\tout", "dir", "dirout", "$$", "${v}", "${v} out", "dir$$ out", "files out x"} {
		checks(t, arg, false)
	}
}

// $$ and ${KEY}, in words and rests, as they stand in Args.
func TestDollars(t *testing.T) {
	for text, right := range map[string]bool{
		"$$": true, "$$$$": true, "a$$b": true, "${v}": true, "${e}": true, "${out}": true, "a${v}b${e}": true, "$${w}": true, "$${": true, "$$}": true,
		"$": false, "$$$": false, "a$": false, "$x": false, "$v": false, "$}": false, "${": false, "${v": false, "${w}": false, "${}": false, "${V}": false,
		"${v }": false, "${ v}": false, "${${v}}": false, "${v}$": false, "$${v}$": false, "$ {v}": false, "$\x00": false, "$$$x": false, "$$${v}": true,
		"}": true, "{v}": true, "{": true, "${v}}": true, "${$$}": false, "${vv}": false,
	} {
		for _, head := range []string{"file w ", "fail ", "swap w w ", "line w "} {
			checks(t, head+text, right)
		}
		word := !strings.Contains(text, " ") && right
		for _, pair := range [][2]string{{"dir ", ""}, {"need ", ""}, {"copy ", " w"}, {"copy w ", ""}, {"swap w ", " r"}, {"swap ", " w r"}, {"file ", " r"}} {
			checks(t, pair[0]+text+pair[1], word)
		}
	}
	checks(t, "file o${v w} x", false) // the word ends at the blank, and so does what may be a key
	checks(t, "file w ${v w}", false)
	checks(t, "dir ${a b}", false)
}

// Keys of no bytes, with any bytes but the closing brace, and twice in Env.
func TestKeys(t *testing.T) {
	r := plainly()
	r.Env = []api.Pair{{Key: "", Value: "nothing"}, {Key: "a b", Value: "1"}, {Key: "x", Value: "2"}, {Key: "x", Value: "3"}, {Key: "$$", Value: "4"}, {Key: "${x", Value: "5"},
		{Key: "{", Value: "6"}, {Key: "\x00\n\xff", Value: "7"}, {Key: "y}", Value: "8"}, {Key: "v", Value: "$$${x} $"}, {Key: "", Value: "never"}, {Key: "/", Value: "9"}}
	for text, bytes := range map[string]string{
		"${}": "nothing", "${a b}": "1", "${x}": "2", "${$$}": "4", "${${x}": "5", "${{}": "6", "${\x00\n\xff}": "7", "${v}": "$$${x} $", "${/}${x}${}": "92nothing",
		"$${x}": "${x}", "$$${x}": "$2", "${x}}": "2}",
	} {
		r.Args = []string{"file out " + text}
		runsTo(t, r, nil, api.OK, 0, file(bytes))
	}
	r.Args = []string{"file out ${y}}"}
	runsTo(t, r, nil, api.ErrStep, 0)
	if e, at := Check(r); e != api.ErrStep || at != 0 {
		t.Errorf("P14.1: %d, %d", e, at)
	}
}

// Words come to hold blanks, slashes, or nothing.
func TestWordsThatCome(t *testing.T) {
	r := plainly("dir out", "file out/${v} x", "file ${way} y", "list tmp out", "file ${tmp}${tail} z")
	r.Env = []api.Pair{{Key: "v", Value: "a b"}, {Key: "way", Value: "out/c d"}, {Key: "tmp", Value: "out"}, {Key: "tail", Value: "/e"}, {Key: "e"}, {Key: "blank", Value: " "}}
	runsTo(t, r, nil, api.OK, 0, dir(entry("a b", file("x")), entry("c d", file("y")), entry("e", file("z"))))
	for _, arg := range []string{"dir ${e}", "need ${e}", "copy ${e} out", "copy tmp ${e}", "move tmp ${e}", "drop ${e}", "need ${blank}out", "need out${blank}", "file out/${e} x", "need out/${e}"} {
		r.Args = []string{"file out x", arg}
		runsTo(t, r, nil, api.ErrStep, 1)
	}
	r.Args = []string{"file out${e} a${blank}b", "swap out ${blank} ${e}"}
	runsTo(t, r, nil, api.OK, 0, file("ab"))
}

// Words and rest of MaxArk bytes together are taken; one more fails.
func TestLongTexts(t *testing.T) {
	r := plainly("file out x", "swap out ${long}y z")
	for _, more := range []int{0, 1, 7} {
		long := strings.Repeat("w", api.MaxArk-len("out")-len("y")-len("z")+more)
		r.Env = []api.Pair{{Key: "long", Value: long}}
		if more == 0 {
			runsTo(t, r, nil, api.OK, 0, file("x"))
		} else {
			runsTo(t, r, nil, api.ErrStep, 1)
		}
	}
	half := strings.Repeat("w", api.MaxArk/2)
	r.Env = []api.Pair{{Key: "half", Value: half}, {Key: "rest", Value: half[3:]}}
	r.Args = []string{"file out x", "swap out ${half} ${rest}"}
	runsTo(t, r, nil, api.OK, 0, file("x"))
	r.Args[1] += "w"
	runsTo(t, r, nil, api.ErrStep, 1)
	r.Args[1] = "fail ${half}${half}${half}"
	runsTo(t, r, nil, api.ErrStep, 1)
	// So few bytes that stand for so many.
	r.Env = []api.Pair{{Key: "v", Value: strings.Repeat("w", api.MaxArk)}}
	r.Args = []string{"file out x", "text out " + strings.Repeat("${v}", 1<<20)}
	if trees, e, at := Run(r, nil); len(trees) > 0 || e != api.ErrStep || at != 1 {
		t.Errorf("P14.2: %d, %d", e, at)
	}
	r.Args[1] += "$"
	if e, at := Check(r); e != api.ErrStep || at != 1 {
		t.Errorf("P14.1: %d, %d", e, at)
	}
}

// Each verb, done.
func TestVerbs(t *testing.T) {
	runs(t, api.OK, 0, dir(), "dir out")
	runs(t, api.OK, 0, file("hi  you \x00\n\xff"), "file out hi  you \x00\n\xff")
	runs(t, api.OK, 0, file(""), "file out ")
	runs(t, api.OK, 0, link("a b\n/.."), "link out a b\n/..")
	runs(t, api.OK, 0, dir(entry("d", dir(entry("f", file("1")), entry("g", file("1"))))), "dir out", "dir out/d", "file out/d/f 1", "copy out/d/g out/d/f")
	runs(t, api.OK, 0, dir(entry("a", program("1")), entry("b", link("x")), entry("c", dir(entry("d", program("1"))))),
		"dir out", "file out/a 1", "exec out/a", "link tmp x", "copy out/b tmp", "dir out/c", "copy out/c/d out/a")
	runs(t, api.OK, 0, file("sha256:"+hexOf(arkFor(file("x")))+"\n"), "file tmp x", "sum out tmp")
	runs(t, api.OK, 0, file("sha256:"+hexOf(arkFor(dir(entry("a", program("x")), entry("l", link("m")))))+"\n"), "dir tmp", "file tmp/a x", "exec tmp/a", "link tmp/l m", "sum out tmp")
	runs(t, api.OK, 0, file(digest.Show(digest.Of(arkFor(link("m"))), api.FormHex)+"\n"), "dir tmp", "link tmp/l m", "sum out tmp/l")
	runs(t, api.OK, 0, file("d \nx a\nd b\nf b/c\nl b/d\nd b.c\n"), "dir tmp", "dir tmp/b.c", "dir tmp/b", "link tmp/b/d x", "file tmp/b/c x", "file tmp/a x", "exec tmp/a", "list out tmp")
	runs(t, api.OK, 0, file("d \nf c\n"), "dir tmp", "dir tmp/b", "file tmp/b/c x", "list out tmp/b")
	runs(t, api.OK, 0, file("x \n"), "file tmp x", "exec tmp", "list out tmp")
	runs(t, api.OK, 0, file("l \n"), "link tmp x", "list out tmp")
	runs(t, api.OK, 0, file("f \n"), "file tmp x", "list out tmp")
	runs(t, api.OK, 0, file("d \n"), "dir tmp", "list out tmp")
	runs(t, api.OK, 0, file("a b\n\n c"), "file out a ", "line out b", "line out ", "text out  c", "text out ")
	runs(t, api.OK, 0, program("ab\ncc"), "file out a", "exec out", "line out b", "file tmp c", "add out tmp", "add out tmp")
	runs(t, api.OK, 0, file("abab"), "file out ab", "add out out")
	runs(t, api.OK, 0, file("1"), "dir tmp", "file tmp/a 1", "move out tmp/a", "need tmp")
	runs(t, api.OK, 0, program("1"), "file out 1", "exec out", "exec out")
	runs(t, api.OK, 0, file("1"), "file out 1", "plain out", "exec out", "plain out", "plain out")
	runs(t, api.OK, 0, file("2"), "file out 1", "drop out", "file out 2")
	runs(t, api.OK, 0, dir(entry("b", file(""))), "dir out", "file out/a ", "file out/b ", "file out/c ", "drop out/a", "drop out/c")
	runs(t, api.OK, 0, dir(), "dir out", "dir out/a", "file out/a/b x", "drop out/a")
	runs(t, api.OK, 0, dir(), "dir out", "need out", "dir tmp", "need tmp")
}

// What a copy is of has no part in it any more.
func TestCopiesApart(t *testing.T) {
	runs(t, api.OK, 0, dir(entry("a", file("1x")), entry("b", file("1y")), entry("c", program("1"))),
		"dir out", "file out/a 1", "copy out/b out/a", "copy out/c out/b", "text out/a x", "text out/b y", "exec out/c")
	runs(t, api.OK, 0, dir(entry("a", dir(entry("x", file("")), entry("z", file("")))), entry("b", dir(entry("x", file("")), entry("y", file(""))))),
		"dir out", "dir out/a", "file out/a/x ", "copy out/b out/a", "file out/b/y ", "file out/a/z ")
	runs(t, api.OK, 0, dir(entry("a", file("1")), entry("b", file("1"))), "file tmp 1", "dir out", "copy out/a tmp", "copy out/b tmp", "swap tmp 1 2")
	x := guest(numbered(1), dir(entry("f", file("1"))))
	r := plainly("dir out", "copy out/a "+textOf(x.Label)+"/f", "copy out/b "+textOf(x.Label)+"/f", "text out/a x", "copy out/c "+textOf(x.Label)+"/f", "swap out/c 1 2")
	runsTo(t, r, []api.Object{x}, api.OK, 0, dir(entry("a", file("1x")), entry("b", file("1")), entry("c", file("2"))))
}

// A word that overlaps itself; words and rests that hold one another; from the left, going on behind it.
func TestSwap(t *testing.T) {
	for _, c := range [][4]string{
		{"aaab", "aa", "b", "bab"}, {"aaaa", "aa", "a", "aa"}, {"aaaaa", "aa", "", "a"}, {"aaa", "aa", "aa", "aaa"}, {"ababa", "aba", "x", "xba"}, {"abc", "x", "y", "abc"}, {"", "x", "y", ""},
		{"abc", "abc", "", ""}, {"abc", "abcd", "x", "abc"}, {"aXb", "X", "XX", "aXXb"}, {"aab", "ab", "b", "ab"}, {"x\x00\n\xff", "\x00\n", " ", "x \xff"}, {"a.a", ".", "$$", "a$a"},
	} {
		runs(t, api.OK, 0, file(c[3]), "file out "+c[0], "swap out "+c[1]+" "+c[2])
	}
	fails(t, "file out x", "swap out ${e} y")
	fails(t, "file out ", "swap out ${e} ")
	fails(t, "dir out", "swap out x y")
	fails(t, "link out x", "swap out x y")
	fails(t, "swap out x y")
	fails(t, "swap tmp/a x y")
}

// Ways: names alone, with entries' names, of tmp; what is none.
func TestWays(t *testing.T) {
	for _, way := range []string{"", "/", "x", "Out", "out2", "outs", "ou", "tmp2", "/out", "//out", "out/", "out//a", "out/.", "out/..", "out/./a", "out/../out", "out/a/", "out/a\x00", "out/\x00",
		"tmp/", "tmp/..", "./out", "../out", "L", "out\x00", "out/" + strings.Repeat("n", 256), "out/a/" + strings.Repeat("n", 256), "out\\a", ""} {
		args := []string{"dir out", "file out/a x", "dir tmp", "file tmp/a x"}
		r := plainly(append(args, "")...)
		r.Env = append(r.Env, api.Pair{Key: "way", Value: way})
		for _, step := range []string{"dir W", "file W x", "link W x", "copy W out/a", "copy out/n W", "move W out/a", "move out/n W", "sum W out", "sum out/n W", "list W out", "list out/n W",
			"text W x", "line W x", "add W out/a", "add out/a W", "swap W x y", "exec W", "plain W", "drop W", "need W"} {
			r.Args[len(args)] = strings.Replace(step, "W", "${way}", 1)
			runsTo(t, r, nil, api.ErrStep, len(args))
		}
	}
	longest := strings.Repeat("n", 255)
	runs(t, api.OK, 0, dir(entry("...", file("1")), entry("..a", file("2")), entry("a\\\n\xff", file("3")), entry(longest, file("4"))),
		"dir out", "file out/..a 2", "file out/"+longest+" 4", "file out/... 1", "file out/a\\\n\xff 3")
	fails(t, "dir out", "file out/"+longest+"n x")
	fails(t, "file out/a x")
	fails(t, "dir tmp", "file out/a x")
	fails(t, "file out x", "file out/a x")
	fails(t, "link out .", "file out/a x")
	fails(t, "dir out", "file out/a/b x")
	fails(t, "dir out", "file out/a x", "file out/a/b x")
	fails(t, "dir out", "link out/a .", "file out/a/b x")
	fails(t, "dir out", "link out/a .", "need out/a/a")
}

// An output that is called tmp is an output; else tmp is none.
func TestTmp(t *testing.T) {
	two := recipeOf(0, "out tmp", "file tmp 1", "copy out tmp", "text tmp 2")
	runsTo(t, two, nil, api.OK, 0, file("1"), file("12"))
	two.Args = []string{"file out 1"}
	runsTo(t, two, nil, api.ErrMade, 1)
	one := recipeOf(0, "tmp", "dir tmp", "file tmp/a x")
	runsTo(t, one, nil, api.OK, 0, dir(entry("a", file("x"))))
	one.Args = []string{"file out x"}
	runsTo(t, one, nil, api.ErrStep, 0)
	runs(t, api.OK, 0, file("1"), "file out 1", "dir tmp", "file tmp/left over")
	runs(t, api.ErrMade, 1, api.Node{}, "file tmp x")
	runs(t, api.ErrMade, 0, api.Node{})
	runs(t, api.ErrMade, 2, api.Node{}, "file out x", "drop out")
	runs(t, api.ErrMade, 2, api.Node{}, "file out x", "move tmp out")
}

// Outputs come out in their order, whichever is made first; each must be there.
func TestOutputs(t *testing.T) {
	r := recipeOf(0, "a b c", "file c 3", "file a 1", "dir b")
	runsTo(t, r, nil, api.OK, 0, file("1"), dir(), file("3"))
	for _, gone := range []string{"a", "b", "c"} {
		r.Args = []string{"file c 3", "file a 1", "dir b", "drop " + gone}
		runsTo(t, r, nil, api.ErrMade, 4)
	}
	r.Args = []string{"file c 3", "dir b", "dir b/x", "move a b/x", "move b/x c", "copy c b"}
	runsTo(t, r, nil, api.OK, 0, dir(), dir(entry("x", file("3"))), dir(entry("x", file("3"))))
}

// Froms that lead into inputs.
func TestInputs(t *testing.T) {
	a, b, c := numbered(1), numbered(2), numbered(3)
	inner := dir(entry("f", program("bytes")), entry("l", link("f")), entry("sub", dir(entry("x y", file("z")))))
	inputs := []api.Object{guest(a, file("one")), {Label: b, Ark: []byte("no archive")}, guest(a, file("two")), guest(b, file("three")), guest(c, inner), {Label: numbered(4)}}
	at := func(l api.Label, more string) string { return textOf(l) + more }
	for from, n := range map[string]api.Node{at(a, ""): file("one"), at(c, ""): inner, at(c, "/f"): program("bytes"), at(c, "/l"): link("f"), at(c, "/sub"): dir(entry("x y", file("z")))} {
		runsTo(t, plainly("copy out "+from, "need "+from), inputs, api.OK, 0, n)
	}
	spaced := given(plainly("copy out ${way}", "need ${way}"), "way", at(c, "/sub/x y"))
	runsTo(t, spaced, inputs, api.OK, 0, file("z"))
	runsTo(t, plainly("sum out "+at(c, "/l")), inputs, api.OK, 0, file("sha256:"+hexOf(arkFor(link("f")))+"\n"))
	runsTo(t, plainly("list out "+at(c, "")), inputs, api.OK, 0, file("d \nx f\nl l\nd sub\nf sub/x y\n"))
	runsTo(t, plainly("file out 1", "add out "+at(a, ""), "add out "+at(c, "/f")), inputs, api.OK, 0, file("1onebytes"))
	other := c
	other.Name = "n4"
	for _, from := range []string{at(numbered(9), ""), at(other, ""), at(b, ""), at(numbered(4), ""), at(a, "/x"), at(c, "/x"), at(c, "/f/x"), at(c, "/l/x"), at(c, "/sub/x"), at(c, "/"), at(c, "//f"), at(c, "/f/"),
		at(c, "/."), at(c, "/.."), at(c, "/sub/.."), at(c, "/sub/../f"), "/", "//", "/graft/store/", "/graft/store", part(c) + "-n3", "/out", at(c, "")[1:], at(c, "\x00"), "/graft/store/" + part(c), at(c, "/"+strings.Repeat("n", 256)), at(c, strings.Repeat("/n", 9000))} {
		for _, step := range []string{"copy out/a F", "sum out/a F", "list out/a F", "need F", "add out/f F"} {
			r := given(plainly("dir out", "file out/f 1", strings.Replace(step, "F", "${way}", 1)), "way", from)
			runsTo(t, r, inputs, api.ErrStep, 2)
		}
	}
	// An input without a name is found by no text: not by one that is no way either.
	nameless := append(slices.Clone(inputs), guest(api.Label{}, file("nameless")), guest(api.Label{Hash: c.Hash}, file("nameless")))
	for _, from := range []string{"/", "/x", "/graft/store/" + strings.Repeat("0", 32) + "-", "/graft/store/" + strings.Repeat("0", 32), "/graft/store/" + part(c) + "-", at(c, "/")} {
		runsTo(t, plainly("need "+from), nameless, api.ErrStep, 0)
	}
	for _, step := range []string{"add out/f " + at(c, ""), "add out/f " + at(c, "/l"), "move out/m " + at(c, "/f"), "move out/m " + at(a, ""), "drop " + at(a, ""), "text " + at(a, "") + " x", "exec " + at(c, "/f"), "file " + at(c, "/new") + " x"} {
		runsTo(t, plainly("dir out", "file out/f 1", step), inputs, api.ErrStep, 2)
	}
}

// Each ground on which a step fails, and two at once.
func TestFailing(t *testing.T) {
	for _, c := range []string{
		"fail ", "fail now", "dir out|dir out", "dir out|file out x", "dir out|link out x", "dir out|copy out out", "file out x|sum out out", "file out x|list out out", "file tmp x|file out y|move out tmp",
		"need out", "need tmp", "need tmp/a", "drop out", "drop tmp", "file out x|drop out|drop out", "dir out|drop out/a", "text out x", "line out x", "exec out", "plain out", "swap out x y", "add out out",
		"dir out|text out x", "dir out|line out x", "dir out|exec out", "dir out|plain out", "dir out|swap out x y", "link out x|text out x", "link out x|line out x", "link out x|exec out", "link out x|plain out",
		"file out x|add out tmp", "file out x|dir tmp|add out tmp", "file out x|link tmp x|add out tmp", "dir out|file tmp x|add out tmp", "link out x|file tmp x|add out tmp", "add out tmp",
		"copy out tmp", "copy out out", "move out tmp", "move out out", "sum out tmp", "list out tmp", "file out x|move tmp/a out", "dir out|move out/a out", "dir out|dir out/a|move out/a/b out/a", "dir out|dir out/a|move out/a/b out",
		"link out ", "link out \x00", "link out a\x00b", "link out " + strings.Repeat("x", 1025), "dir out|file out/a x|file out/a x", "dir out|dir out/a|dir out/a", "file out x|copy tmp/a out",
	} {
		fails(t, strings.Split(c, "|")...)
	}
	runs(t, api.OK, 0, link(strings.Repeat("x", 1024)), "link out "+strings.Repeat("x", 1024))
	runs(t, api.ErrStep, 1, api.Node{}, "dir out", "fail x", "dir out", "fail y") // the first that fails
}

// Copy and move of a node into itself.
func TestIntoItself(t *testing.T) {
	runs(t, api.OK, 0, dir(entry("a", dir(entry("x", file("1")))), entry("x", file("1"))), "dir out", "file out/x 1", "copy out/a out")
	runs(t, api.OK, 0, dir(entry("a", dir(entry("a", dir()), entry("x", file("1")))), entry("x", file("1"))), "dir out", "dir out/a", "file out/x 1", "move tmp out", "dir out", "move out/a tmp", "move out/x out/a/x", "copy out/a/x out/x")
	fails(t, "dir out", "move out/a out")
	runs(t, api.OK, 0, dir(entry("a", file("1"))), "dir out", "file out/a 1", "move out/a out/a")
	runs(t, api.OK, 0, dir(entry("a", file("1"))), "dir out", "file out/a 1", "move out out")
	runs(t, api.OK, 0, dir(entry("b", dir(entry("c", file("1"))))), "dir out", "dir out/a", "file out/a/c 1", "move out/b out/a")
	fails(t, "dir out", "file out/a 1", "copy out/a out/a")
	fails(t, "dir out", "file out/a 1", "move out/a/b out/a")
}

// Entries stand in order, wherever they are made.
func TestEntriesInOrder(t *testing.T) {
	names := []string{"!", "a", "aa", "ab", "b", "b!", "ba", "z", "\xff"}
	source := sourceOf(1)
	for range 50 {
		args := []string{"dir out"}
		var list []api.Entry
		for _, name := range names {
			list = append(list, entry(name, file(name)))
		}
		for _, i := range source.Perm(len(names)) {
			args = append(args, "file out/"+names[i]+" "+names[i])
		}
		runs(t, api.OK, 0, dir(list...), args...)
	}
}

// Check: each error alone, and two at once.
func TestCheck(t *testing.T) {
	r := func(change func(r *api.Recipe)) api.Recipe {
		x := recipeOf(0, "doc out", "dir out", "dir doc")
		change(&x)
		return x
	}
	names := func(names ...string) api.Recipe {
		return r(func(r *api.Recipe) {
			r.Outputs = nil
			for _, name := range names {
				r.Outputs = append(r.Outputs, api.Output{Name: name})
			}
		})
	}
	for i, c := range []struct {
		r  api.Recipe
		e  api.Errno
		at int
	}{
		{r(func(*api.Recipe) {}), api.OK, 0},
		{names(), api.ErrArg, -1},
		{names("out", "doc"), api.ErrArg, -1},
		{names("doc", "doc"), api.ErrArg, -1},
		{names("a", "c", "b"), api.ErrArg, -1},
		{names(""), api.ErrArg, -1},
		{names("."), api.ErrArg, -1},
		{names("a", "b c"), api.ErrArg, -1},
		{names("a", "b/c"), api.ErrArg, -1},
		{names(strings.Repeat("a", 212)), api.ErrArg, -1},
		{names(strings.Repeat("a", 211)), api.OK, 0},
		{names("a", "recipe"), api.OK, 0}, // recipe.Check is not asked
		{r(func(r *api.Recipe) { r.System = "" }), api.ErrBuilder, -1},
		{r(func(r *api.Recipe) { r.System = "Any" }), api.ErrBuilder, -1},
		{r(func(r *api.Recipe) { r.Builder = "" }), api.ErrBuilder, -1},
		{r(func(r *api.Recipe) { r.Builder = "builtin:makes" }), api.ErrBuilder, -1},
		{r(func(r *api.Recipe) { r.System, r.Outputs = "x", nil }), api.ErrArg, -1},
		{r(func(r *api.Recipe) { r.System, r.Args = "x", []string{"no"} }), api.ErrBuilder, -1},
		{r(func(r *api.Recipe) { r.Builder, r.Args = "x", []string{"no"} }), api.ErrBuilder, -1},
		{r(func(r *api.Recipe) { r.Outputs, r.Args = nil, []string{"no"} }), api.ErrArg, -1},
		{r(func(r *api.Recipe) { r.Args = []string{"no"} }), api.ErrStep, 0},
		{r(func(r *api.Recipe) { r.Args = []string{"dir a", "dir b", "dir", "no"} }), api.ErrStep, 2},
		{r(func(r *api.Recipe) { r.Args = nil }), api.OK, 0},
		{r(func(r *api.Recipe) { r.Env, r.Inputs, r.Sources = nil, []api.Input{{}}, []string{"x", "x"} }), api.OK, 0},
		{r(func(r *api.Recipe) { r.Args = slices.Repeat([]string{"fail x"}, 300) }), api.OK, 0},
		{r(func(r *api.Recipe) { r.Args = append(slices.Repeat([]string{"fail x"}, 300), "x") }), api.ErrStep, 300},
		{api.Recipe{}, api.ErrArg, -1},
	} {
		if e, at := Check(c.r); e != c.e || at != c.at {
			t.Errorf("P14.1: %d: Check = %d, %d, want %d, %d", i, e, at, c.e, c.at)
		}
		if e, at := plainCheck(c.r); e != c.e || at != c.at {
			t.Errorf("%d: the plain reading = %d, %d, want %d, %d", i, e, at, c.e, c.at)
		}
		if c.e != api.OK {
			runsTo(t, c.r, nil, c.e, c.at) // Run tells it, and does no step
		}
	}
}

// As many steps as one likes: the number of steps is not asked.
func TestManySteps(t *testing.T) {
	args := append([]string{"file out "}, slices.Repeat([]string{"text out x"}, 1000)...)
	runs(t, api.OK, 0, file(strings.Repeat("x", 1000)), args...)
	runs(t, api.ErrStep, 1001, api.Node{}, append(args, "dir out")...)
}
