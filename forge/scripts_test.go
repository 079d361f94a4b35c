package forge

import (
	"math/rand/v2"
	"strings"
	"testing"

	"graft/api"
)

// Scripts of steps by chance, held against the plain reading.

func pick[T any](source *rand.Rand, list ...T) T { return list[source.IntN(len(list))] }

// wayBy is a way, most often one that may be.
func wayBy(source *rand.Rand) string {
	way := pick(source, "out", "out", "out", "doc", "tmp", "tmp", "no")
	for source.IntN(5) > 1 && len(way) < 20 {
		way += "/" + pick(source, "a", "a", "a", "b", "b", "c", "", ".", "..", "l", "${n}", "${e}")
	}
	return way
}

func fromBy(source *rand.Rand) string {
	if source.IntN(4) > 0 {
		return wayBy(source)
	}
	from := textOf(numbered(source.IntN(4)))
	for source.IntN(3) > 0 && len(from) < 80 {
		from += "/" + pick(source, "a", "b", "f", "l", "", "..")
	}
	return from
}

func restBy(source *rand.Rand) string {
	return pick(source, "", "x", "a", "aa", "ab", "a b", " ", "$$", "${v}", "${e}", "${big}", "\x00\xff\n", "${out}", "x", "aa", "aaa")
}

func stepBy(source *rand.Rand) string {
	verb := pick(source, "dir", "dir", "dir", "file", "file", "file", "link", "copy", "copy", "move", "sum", "list", "text", "line", "add", "swap", "exec", "plain", "drop", "need", "fail")
	if source.IntN(60) > 0 && verb == "fail" {
		verb = "dir"
	}
	out := verb
	for i, what := range plainForms[verb] {
		out += " "
		switch {
		case what == 'r':
			out += restBy(source)
		case verb == "need" || i == 1 && verb != "swap":
			out += fromBy(source)
		case i == 1:
			out += pick(source, "a", "aa", "x", "${v}", "${e}", "ab", "$$")
		default:
			out += wayBy(source)
		}
	}
	if source.IntN(300) == 0 {
		out += pick(source, " ", " x", "$", "${", "${no}")
	}
	return out
}

func inputsBy(source *rand.Rand) []api.Object {
	trees := []api.Node{file("aab"), dir(entry("a", file("a")), entry("b", dir(entry("f", program("x"))))), dir(entry("f", file("aa")), entry("l", link("f"))), link("a")}
	var out []api.Object
	for range source.IntN(5) {
		o := guest(numbered(source.IntN(4)), pick(source, trees...))
		if source.IntN(8) == 0 {
			o.Ark = o.Ark[:source.IntN(len(o.Ark))]
		}
		out = append(out, o)
	}
	return out
}

func TestScripts(t *testing.T) {
	source := sourceOf(2)
	ends := map[api.Errno]int{}
	long := 0
	for range 2500 {
		r := recipeOf(0, pick(source, "out", "doc out", "doc out tmp", "a doc out"))
		for _, p := range []api.Pair{{Key: "v", Value: "1 2"}, {Key: "e"}, {Key: "big", Value: strings.Repeat("a", 1000)}, {Key: "n", Value: "b/c"}} {
			r = given(r, p.Key, p.Value)
		}
		inputs := inputsBy(source)
		// A script grows by steps that are right, most often: else it would end at once.
		for range 3 + source.IntN(80) {
			arg := stepBy(source)
			r.Args = append(r.Args, arg)
			if _, e, _ := plainRun(r, inputs); e == api.ErrStep && source.IntN(100) > 0 {
				r.Args = r.Args[:len(r.Args)-1]
			} else if e == api.ErrStep {
				break
			}
		}
		for _, o := range r.Outputs {
			if source.IntN(3) > 0 {
				r.Args = append(r.Args, "file "+o.Name+" end")
				if _, e, _ := plainRun(r, inputs); e == api.ErrStep {
					r.Args = r.Args[:len(r.Args)-1]
				}
			}
		}
		got, want := toldRun(Run(r, inputs)), toldRun(plainRun(r, inputs))
		if got != want {
			t.Fatalf("P14.2: Run of %q = %s\nwant %s", r.Args, got, want)
		}
		_, e, _ := plainRun(r, inputs)
		ends[e]++
		if e == api.OK {
			long = max(long, len(r.Args))
		}
	}
	for _, e := range []api.Errno{api.OK, api.ErrStep, api.ErrMade} {
		if ends[e] < 100 {
			t.Errorf("only %d scripts end with %d", ends[e], e)
		}
	}
	if long < 15 {
		t.Errorf("the longest script has %d steps", long)
	}
}
