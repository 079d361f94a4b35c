package modulo

import (
	"crypto/sha256"
	"fmt"
	"slices"
	"strings"
	"testing"

	"graft/api"
	"graft/recipe"
)

func checkHash(t *testing.T, what, name string, r api.Recipe, known []api.Known, want string) {
	t.Helper()
	holdHash(t, name, r, known)
	if sum, e, at := Hash(name, r, known); fmt.Sprintf("%x", sum) != want || e != api.OK || at != 0 {
		t.Errorf("%s: %x, %d, %d, want %s", what, sum, e, at, want)
	}
}

func refuseHash(t *testing.T, what, name string, r api.Recipe, known []api.Known, want api.Errno, wantAt int) {
	t.Helper()
	holdHash(t, name, r, known)
	if sum, e, at := Hash(name, r, known); sum != (api.Sum{}) || e != want || at != wantAt {
		t.Errorf("P7.1: %s: %x, %d, %d, want %d, %d", what, sum, e, at, want, wantAt)
	}
}

// The examples 1, 2, 3 and 5: the sums were made by another program.
func TestHashExamples(t *testing.T) {
	r, k := read(t, one), api.Sum{7}
	checkHash(t, "1", "x", r, nil, "77af99ad82b601dc9ebfda038ba0c40bf83f0522ef2c466478033c1b02fbfc6f")
	s := asking(r, y, "out")
	refuseHash(t, "1", "x", s, nil, api.ErrInput, 0)
	checkHash(t, "1", "x", s, []api.Known{{Recipe: y, Sum: k}}, "2e08a9e5d4cd27b9288285bd6b922a2171073a1d7f11c54cd35dc86233da16aa")
	refuseHash(t, "2", ".x", r, nil, api.ErrName, -1)
	refuseHash(t, "2", "x", api.Recipe{}, nil, api.ErrRecipe, 0)
	both := asking(s, z, "doc")
	checkHash(t, "3", "x", both, []api.Known{{Recipe: y, Sum: k}, {Recipe: z, Sum: k}}, "49a03f88514a40197827763cb87d94d5430f4fd9f395bf2003abeb27d241bdd3")
	checkHash(t, "5", "x", asking(fixed(t, "r:sha256", zeros), y, "out"), nil, "18dd77c8885180029f875c3bfddc24fd1e85637ac39e4740ac1466579bb711e5")
	checkHash(t, "flat", "x", fixed(t, "sha256", zeros), nil, "e7e04bc6d952724d93f2bfe30e8f67812abcb0b7f96a438cf63e6ec427aa30d8")
}

// P7.1: names, ahead of all else.
func TestHashNames(t *testing.T) {
	r := read(t, one)
	lost := asking(r, y, "out")
	for name, want := range map[string]api.Errno{
		"": api.ErrName, ".": api.ErrName, ".x": api.ErrName, "a b": api.ErrName, "a/": api.ErrName, "\xff": api.ErrName, "a\x00": api.ErrName, "a\n": api.ErrName,
		strings.Repeat("n", 212): api.ErrLong, strings.Repeat("/", 70000): api.ErrLong,
	} {
		for _, r := range []api.Recipe{r, lost, {}, fixed(t, "sha256", zeros), floating(t)} {
			refuseHash(t, "the name "+short(name), name, r, nil, want, -1)
		}
	}
	for _, name := range []string{"x", "A0+-._?=", "-", strings.Repeat("n", 211)} {
		for _, r := range []api.Recipe{r, fixed(t, "sha256", zeros), floating(t)} {
			holdHash(t, name, r, nil)
			if _, e, at := Hash(name, r, nil); e != api.OK || at != 0 {
				t.Errorf("P7.1: the name %s: %d, %d", short(name), e, at)
			}
		}
	}
}

// spoils is what makes a recipe none, with the error and the field's number.
func spoils() []spoil {
	many := slices.Repeat([]string{"a"}, 257)
	return []spoil{
		{api.ErrLong, 0, func(r *api.Recipe) { r.Outputs = make([]api.Output, 257) }},
		{api.ErrLong, 1, func(r *api.Recipe) { r.Inputs = make([]api.Input, 257) }},
		{api.ErrLong, 1, func(r *api.Recipe) { r.Inputs = []api.Input{{Recipe: y, Outputs: many}} }},
		{api.ErrLong, 2, func(r *api.Recipe) { r.Sources = many }},
		{api.ErrLong, 5, func(r *api.Recipe) { r.Args = many }},
		{api.ErrLong, 6, func(r *api.Recipe) { r.Env = make([]api.Pair, 257) }},
		{api.ErrRecipe, 0, func(r *api.Recipe) { r.Outputs = nil }},
		{api.ErrRecipe, 0, func(r *api.Recipe) { r.Outputs = []api.Output{{Name: "out", Sum: zeros}} }},
		{api.ErrRecipe, 0, func(r *api.Recipe) { r.Outputs = []api.Output{{Name: "out", Algo: "sha256", Sum: zeros[1:]}} }},
		{api.ErrRecipe, 0, func(r *api.Recipe) { r.Outputs = []api.Output{{Name: "out", Algo: "sha256", Sum: zeros[1:] + "A"}} }},
		{api.ErrOrder, 0, func(r *api.Recipe) { r.Outputs = []api.Output{{Name: "out"}, {Name: "doc"}} }},
		{api.ErrMixed, 0, func(r *api.Recipe) { r.Outputs = []api.Output{{Name: "doc"}, {Name: "out", Algo: "r:sha256"}} }},
		{api.ErrMixed, 0, func(r *api.Recipe) { r.Outputs = []api.Output{{Name: "out", Algo: "sha256"}} }},
		{api.ErrRecipe, 1, func(r *api.Recipe) { r.Inputs = []api.Input{{Recipe: y}} }},
		{api.ErrRecipe, 1, func(r *api.Recipe) { r.Inputs = []api.Input{{Recipe: store + "y", Outputs: []string{"out"}}} }},
		{api.ErrOrder, 1, func(r *api.Recipe) { r.Inputs = []api.Input{{Recipe: y, Outputs: []string{"out", "doc"}}} }},
		{api.ErrOrder, 1, func(r *api.Recipe) {
			r.Inputs = []api.Input{{Recipe: z, Outputs: []string{"out"}}, {Recipe: y, Outputs: []string{"out"}}}
		}},
		{api.ErrRecipe, 2, func(r *api.Recipe) { r.Sources = []string{"x"} }},
		{api.ErrOrder, 2, func(r *api.Recipe) { r.Sources = []string{y, y} }},
		{api.ErrRecipe, 3, func(r *api.Recipe) { r.System = "" }},
		{api.ErrRecipe, 4, func(r *api.Recipe) { r.Builder = "" }},
		{api.ErrRecipe, 6, func(r *api.Recipe) { r.Env = nil }},
		{api.ErrOrder, 6, func(r *api.Recipe) { r.Env = append(slices.Clone(r.Env), r.Env...) }},
		{api.ErrRecipe, 6, func(r *api.Recipe) { r.Env = []api.Pair{{Key: "out", Value: y}} }},
	}
}

type spoil struct {
	e    api.Errno
	at   int
	turn func(*api.Recipe)
}

// P7.1: recipes that are none, ahead of inputs that are not known; Fill and Fits answer likewise.
func TestHashRecipes(t *testing.T) {
	long := strings.Repeat("a", 65536)
	for i, s := range spoils() {
		for _, r := range []api.Recipe{read(t, one), asking(read(t, one), y, "out")} {
			for _, args := range [][]string{nil, {long}} { // a text that is too long is seen last
				r.Args = args
				s.turn(&r)
				what := fmt.Sprintf("the spoilt recipe %d", i)
				refuseHash(t, what, "x", r, nil, s.e, s.at)
				refuseFill(t, what, "x", r, nil, s.e, s.at)
			}
		}
	}
}

// P7.1: inputs that are not known, of each mode; the first one's number.
func TestHashUnknown(t *testing.T) {
	a, b, c := store+"a.recipe", store+"b.recipe", store+"c.recipe"
	for _, r := range []api.Recipe{read(t, one), floating(t)} {
		r = asking(asking(asking(r, a, "out"), b, "doc"), c, "out")
		for _, k := range []struct {
			known []string
			at    int
		}{
			{nil, 0}, {[]string{a}, 1}, {[]string{b}, 0}, {[]string{a, b}, 2}, {[]string{c, a}, 1}, {[]string{c, b}, 0}, {[]string{b, b, b, a, a}, 2},
			{[]string{"", "a", a[:len(a)-1], a + "x", y, z, store + "A.recipe", strings.ToUpper(a), "\xff"}, 0},
			{[]string{a, b, store + "c", c + " "}, 2},
		} {
			known := make([]api.Known, len(k.known))
			for i, text := range k.known {
				known[i] = api.Known{Recipe: text, Sum: api.Sum{byte(i)}}
			}
			what := fmt.Sprint("known are ", k.known)
			refuseHash(t, what, "x", r, known, api.ErrInput, k.at)
			refuseFill(t, what, "x", r, known, api.ErrInput, k.at)
			r := r
			r.Args = []string{strings.Repeat("a", 65536)} // asked for ahead of the text's length
			refuseHash(t, what, "x", r, known, api.ErrInput, k.at)
		}
		for _, order := range [][]string{{a, b, c}, {c, b, a}, {y, b, "", c, "\xff", a, z}} {
			known := make([]api.Known, len(order))
			for i, text := range order {
				known[i] = api.Known{Recipe: text, Sum: sha256.Sum256([]byte(text))}
			}
			holdHash(t, "x", r, known)
			holdFill(t, "x", r, known)
		}
	}
}

// P7.1: of several elements with one Recipe the first counts.
func TestHashKnownTwice(t *testing.T) {
	r := asking(asking(read(t, one), y, "out"), z, "out")
	first := []api.Known{{Recipe: y, Sum: api.Sum{1}}, {Recipe: z, Sum: api.Sum{2}}}
	want, e, _ := Hash("x", r, first)
	for _, more := range [][]api.Known{{{Recipe: y}}, {{Recipe: y, Sum: api.Sum{3}}, {Recipe: z}, {Recipe: y, Sum: api.Sum{4}}}, {first[0], first[1], first[0]}} {
		known := slices.Concat(first, more)
		holdHash(t, "x", r, known)
		if sum, e2, at := Hash("x", r, known); e != api.OK || sum != want || e2 != api.OK || at != 0 {
			t.Errorf("P7.1: known twice: %d, %d", e2, at)
		}
		slices.Reverse(known)
		holdHash(t, "x", r, known)
	}
}

// P7.1: how sums are gathered and put in order, and what is asked for of each.
func TestHashLines(t *testing.T) {
	name := func(i int) string { return fmt.Sprintf("%si%d.recipe", store, i) }
	low, mid, high := api.Sum{0x0f, 0xff}, api.Sum{0x9f}, api.Sum{0xa0}
	last := api.Sum{}
	last[31] = 1
	digits := func(s api.Sum) string { return fmt.Sprintf("%x", s) }
	for _, c := range []struct {
		sums []api.Sum
		asks [][]string
		text string
	}{
		{[]api.Sum{high, mid, low}, [][]string{{"c"}, {"b"}, {"a"}}, digits(low) + "!a\n" + digits(mid) + "!b\n" + digits(high) + "!c\n"},
		{[]api.Sum{{}, last}, [][]string{{"b"}, {"a"}}, digits(api.Sum{}) + "!b\n" + digits(last) + "!a\n"},
		{[]api.Sum{mid, low, mid}, [][]string{{"a", "c"}, {"a"}, {"b", "c", "d"}}, digits(low) + "!a\n" + digits(mid) + "!a,b,c,d\n"},
		{[]api.Sum{low, low, low}, [][]string{{"out"}, {"out"}, {"out"}}, digits(low) + "!out\n"},
		{[]api.Sum{low, low}, [][]string{{"ab", "b"}, {"A", "a", "a-"}}, digits(low) + "!A,a,a-,ab,b\n"},
		{[]api.Sum{low, mid}, [][]string{{"recipe"}, {"out", "recipe"}}, digits(low) + "!recipe\n" + digits(mid) + "!out,recipe\n"},
	} {
		for _, made := range []string{one, two} {
			r := read(t, made)
			var known []api.Known
			for i, sum := range c.sums {
				r = asking(r, name(i), c.asks[i]...)
				known = append(known, api.Known{Recipe: name(i), Sum: sum})
			}
			holdHash(t, "x", r, known)
			if sum, e, at := Hash("x", r, known); sum != sha256.Sum256([]byte("recipe:x\n"+c.text+made)) || e != api.OK || at != 0 {
				t.Errorf("P7.1: not the sum of %s: %d, %d", short(c.text), e, at)
			}
		}
	}
}

// padded is a recipe whose text has so many bytes.
func padded(t *testing.T, r api.Recipe, size int) api.Recipe {
	t.Helper()
	r.Args = []string{""}
	text, e, _ := recipe.Print(r)
	if e != api.OK {
		t.Fatalf("%d", e)
	}
	r.Args = []string{strings.Repeat("a", size-len(text))}
	return r
}

// P7.1: a text that is too long without inputs and labels, and one that is too long by these alone.
func TestHashLong(t *testing.T) {
	known := []api.Known{{Recipe: y, Sum: api.Sum{1}}}
	for _, r := range []api.Recipe{read(t, one), read(t, two), floating(t)} {
		for _, in := range [][]api.Input{nil, {{Recipe: y, Outputs: []string{"out"}}}} {
			fits, long := padded(t, r, 65536), padded(t, r, 65537)
			fits.Inputs, long.Inputs = in, in
			holdHash(t, "x", fits, known)
			if _, e, at := Hash("x", fits, known); e != api.OK || at != 0 {
				t.Errorf("P7.1: 65536 bytes: %d, %d", e, at)
			}
			holdFill(t, "x", fits, known)
			refuseHash(t, "65537 bytes", "x", long, known, api.ErrLong, -1)
			refuseFill(t, "65537 bytes", "x", long, known, api.ErrLong, -1)
		}
	}
	long := fixed(t, "sha256", zeros)
	long.Args = []string{strings.Repeat("a", 70000)} // of a fixed one no text is made
	holdHash(t, "x", long, nil)
	holdFill(t, "x", long, nil)
	if _, e, at := Hash("x", long, nil); e != api.OK || at != 0 {
		t.Errorf("P7.1: a long fixed recipe: %d, %d", e, at)
	}
}

// P7.1: labels have no part in how long a text is.
func TestHashLongByLabels(t *testing.T) {
	r := padded(t, read(t, two), 65536)
	labelled, e := recipe.Put(r, []string{store + "a", store + "b"})
	if _, ePrint, at := recipe.Print(labelled); e != api.OK || ePrint != api.ErrLong || at != -1 {
		t.Fatalf("%d, %d", e, ePrint)
	}
	want, _, _ := Hash("x", r, nil)
	holdHash(t, "x", labelled, nil)
	if sum, e, at := Hash("x", labelled, nil); sum != want || e != api.OK || at != 0 {
		t.Errorf("P7.1: %d, %d", e, at)
	}
	holdFill(t, "x", labelled, nil)
}

// P7.1: as many inputs as there may be, each asked for as much as may be.
func TestHashManyInputs(t *testing.T) {
	r := read(t, one)
	var known []api.Known
	var outputs []string
	for i := range 256 {
		outputs = append(outputs, fmt.Sprintf("%s%03d", strings.Repeat("o", 125), i))
	}
	for i := range 256 {
		in := fmt.Sprintf("%s%03d%s.recipe", store, i, strings.Repeat("i", 201))
		r.Inputs = append(r.Inputs, api.Input{Recipe: in, Outputs: outputs})
		known = append(known, api.Known{Recipe: in, Sum: sha256.Sum256([]byte{byte(i / 2)})})
	}
	holdHash(t, "x", r, known)
	holdFill(t, "x", r, known)
	if _, e, at := Hash("x", r, known); e != api.OK || at != 0 {
		t.Errorf("P7.1: %d, %d", e, at)
	}
	refuseHash(t, "the last one isn't known", "x", r, known[:255], api.ErrInput, 255)
	known[0].Recipe = "gone"
	refuseHash(t, "the first one isn't known", "x", r, known, api.ErrInput, 0)
}

// P7.1: what has a part in a sum, and what has none.
func TestHashParts(t *testing.T) {
	k := []api.Known{{Recipe: y, Sum: api.Sum{1}}, {Recipe: z, Sum: api.Sum{1}}, {Recipe: store + "other.recipe", Sum: api.Sum{2}}}
	r := asking(read(t, two), y, "out")
	r.Sources, r.Args = []string{y}, []string{"a"}
	r.Env = append([]api.Pair{{Key: "a", Value: "b"}}, r.Env...)
	sum := func(name string, turn func(r *api.Recipe)) api.Sum {
		t.Helper()
		r := r
		r.Env, r.Outputs = slices.Clone(r.Env), slices.Clone(r.Outputs)
		turn(&r)
		holdHash(t, name, r, k)
		s, e, at := Hash(name, r, k)
		if e != api.OK || at != 0 {
			t.Fatalf("%d, %d", e, at)
		}
		return s
	}
	want := sum("x", func(*api.Recipe) {})
	for what, turn := range map[string]func(r *api.Recipe){
		"labels":       func(r *api.Recipe) { *r, _ = recipe.Put(*r, []string{y, z}) },
		"another name": func(r *api.Recipe) { r.Inputs = []api.Input{{Recipe: z, Outputs: []string{"out"}}} },
		"two for one": func(r *api.Recipe) {
			r.Inputs = []api.Input{{Recipe: y, Outputs: []string{"out"}}, {Recipe: z, Outputs: []string{"out"}}}
		},
	} {
		if sum("x", turn) != want {
			t.Errorf("P7.1: %s have a part in the sum", what)
		}
	}
	for what, turn := range map[string]func(r *api.Recipe){
		"the sum of an input": func(r *api.Recipe) { r.Inputs = []api.Input{{Recipe: k[2].Recipe, Outputs: []string{"out"}}} },
		"what is asked for":   func(r *api.Recipe) { r.Inputs = []api.Input{{Recipe: y, Outputs: []string{"doc"}}} },
		"no inputs":           func(r *api.Recipe) { r.Inputs = nil },
		"sources":             func(r *api.Recipe) { r.Sources = []string{z} },
		"the system":          func(r *api.Recipe) { r.System = "other" },
		"the builder":         func(r *api.Recipe) { r.Builder = "other" },
		"arguments":           func(r *api.Recipe) { r.Args = nil },
		"the environment":     func(r *api.Recipe) { r.Env[0].Value = "c" },
		"outputs":             func(r *api.Recipe) { r.Outputs, r.Env = r.Outputs[:1], r.Env[:2] },
	} {
		if sum("x", turn) == want {
			t.Errorf("P7.1: %s has no part in the sum", what)
		}
	}
	if sum("y", func(*api.Recipe) {}) == want {
		t.Error("P7.1: the name has no part in the sum")
	}
}
