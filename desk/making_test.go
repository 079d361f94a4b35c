package desk

import (
	"fmt"
	"strings"
	"testing"

	"graft/api"
	"graft/digest"
	"graft/label"
	"graft/modulo"
	"graft/recipe"
)

// 18.3: recipe and make.

const floating = `Derive([("out","","r:sha256","")],[],[],"any","builtin:make",["file out hi"],[("out","")])`

const makes = "recipe r x " + floating

func makesAs(nick, name string) string { return "recipe " + nick + " " + name + " " + floating }

// recipeOf is a recipe's text.
func recipeOf(outputs, inputs, sources, args, env string) string {
	return fmt.Sprintf(`Derive([%s],[%s],[%s],"any","builtin:make",[%s],[%s])`, outputs, inputs, sources, args, env)
}

const (
	byInputs = `("out","","","")`
	floats   = `("out","","r:sha256","")`
	outEnv   = `("out","")`
)

// filledBase is what a recipe is called when it is filled, and its sum.
func filledBase(t *testing.T, name, text string, known ...api.Known) (string, api.Sum) {
	t.Helper()
	r, e, at := recipe.Read(text)
	if e != api.OK {
		t.Fatalf("P6.1: %d, %d", e, at)
	}
	full, e, at := modulo.Fill(name, r, known)
	if e != api.OK {
		t.Fatalf("P7.2: %d, %d", e, at)
	}
	l, e := recipe.Call(name, full)
	if e != api.OK {
		t.Fatalf("P6.9: %d", e)
	}
	sum, _, _ := modulo.Hash(name, r, known)
	return plainBase(l), sum
}

func TestRecipe(t *testing.T) {
	R, sum := filledBase(t, "x", floating)
	out := baseIn(last(t, lines(makes, "make r")))
	key := modulo.Key(sum, "out")
	tellsAll(t, lines(makes, "lookup r", "make r", "make r", "list"),
		"recipe r "+R, "lookup "+R, "made 1", key+" "+out, "made 1", key+" "+out, "list 2", min(R, out), max(R, out))
	if !strings.HasSuffix(R, "-x.recipe") || !strings.HasSuffix(out, "-x") {
		t.Errorf("18.3: %s makes %s", R, out)
	}
	tells(t, lines(makes, "make r", "label o "+out[:32]+" x", "show o", "verify o"), showLine(out, 3, 0, "hi"), "right")
	// Outputs that are called after inputs: their labels are filled in.
	text := recipeOf(byInputs, "", "", `"file out hi"`, outEnv)
	R, sum = filledBase(t, "x", text)
	l, _ := label.Output(sum, "out", "x")
	tellsAll(t, lines("recipe r x "+text, "make r", "label o "+plainPart(l)+" x", "show o"),
		"recipe r "+R, "made 1", modulo.Key(sum, "out")+" "+plainBase(l), "label o "+plainBase(l), showLine(plainBase(l), 0, 0, "hi"))
	// A fixed one: one file, whose bytes' sum is known.
	hi := digest.Of([]byte("hi"))
	text = recipeOf(fmt.Sprintf(`("out","","sha256","%x")`, hi), "", "", `"file out hi"`, outEnv)
	R, sum = filledBase(t, "x", text)
	l, _ = label.Fixed("x", hi, true)
	tellsAll(t, lines("recipe r x "+text, "make r", "label o "+plainPart(l)+" x", "show o", "verify o"),
		"recipe r "+R, "made 1", modulo.Key(sum, "out")+" "+plainBase(l), "label o "+plainBase(l), showLine(plainBase(l), 4, 0, "hi"), "right")
	// Several outputs, all of which are made.
	text = recipeOf(`("doc","","",""),`+byInputs, "", "", `"file out hi","file doc ho"`, `("doc",""),`+outEnv)
	_, sum = filledBase(t, "x", text)
	doc, _ := label.Output(sum, "doc", "x")
	l, _ = label.Output(sum, "out", "x")
	tells(t, lines("recipe r x "+text, "make r"), "made 2", modulo.Key(sum, "doc")+" "+plainBase(doc), modulo.Key(sum, "out")+" "+plainBase(l))
}

// A recipe that needs another one: it must be known, and what it makes is of what that one makes.
func TestRecipeInputs(t *testing.T) {
	R, sum := filledBase(t, "x", floating)
	stand := modulo.Stand("/graft/store/"+R, "out")
	needs := recipeOf(floats, `("%r",["out"])`, "", `"dir out","copy out/a `+stand+`"`, outEnv)
	S, sumS := filledBase(t, "y", strings.ReplaceAll(needs, "%r", "/graft/store/"+R), api.Known{Recipe: "/graft/store/" + R, Sum: sum})
	got := told(t, lines(makes, "recipe s y "+needs, "make s", "make r", "show s"))
	if got[1] != "recipe s "+S || got[2] != "made 1" || !strings.HasPrefix(got[3], modulo.Key(sumS, "out")+" ") || !strings.HasSuffix(got[3], "-y") || got[4] != "made 1" || !strings.HasPrefix(got[6], "show "+S+" ca=1 refs=1 ") {
		t.Errorf("18.3: %q", got)
	}
	// Known are recipes, not texts; and what is known is the play's, in whatever store.
	tells(t, lines("text r x.recipe "+floating, "recipe s y "+needs), "text r "+R, "no 70")
	tells(t, lines(makes, "store 2", "recipe s y "+needs), "store 2", "no 150 "+S+" "+R)
	tells(t, lines(makes, "store 2", makes, "recipe s y "+needs), "recipe r "+R, "recipe s "+S)
	tells(t, lines(makes, "crash 999 0 0", "recipe s y "+needs), "crash 0", "no 150 "+S+" "+R)
	// One that was refused is not known.
	tells(t, lines("label r "+R[:32]+" x.recipe", "guest r other", "import", makes, "recipe s y "+needs), "imported 1", "no 8 "+R+" "+R, "no 70")
	// Sources are what a recipe refers to, too.
	T := textBase("n", "hi")
	copies := recipeOf(floats, "", `"%t"`, `"copy out %t"`, outEnv)
	C, _ := filledBase(t, "x", strings.ReplaceAll(copies, "%t", "/graft/store/"+T))
	full := strings.ReplaceAll(copies, "%t", "/graft/store/"+T)
	tells(t, lines("text t n hi", "recipe r x "+copies, "show r"), "recipe r "+C, showLine(C, 1, 1, full))
}

func TestRecipeRefused(t *testing.T) {
	long := strings.Repeat("n", 205)
	for _, c := range []struct{ what, line, want string }{
		{"the text is none", "recipe r x", "no 3"},
		{"it is cut", "recipe r x " + floating[:40], "no 3"},
		{"something behind it", "recipe r x " + floating + " ", "no 4"},
		{"a blank ahead of it", "recipe r x  " + floating, "no 60"},
		{"a field that may not be", "recipe r x " + recipeOf("", "", "", "", ""), "no 61"},
		{"no order", "recipe r x " + recipeOf(byInputs+`,("doc","","","")`, "", "", "", `("doc",""),`+outEnv), "no 33"},
		{"unlike outputs", "recipe r x " + recipeOf(`("doc","","",""),`+floats, "", "", "", `("doc",""),`+outEnv), "no 62"},
		{"no name", "recipe r .x " + floating, "no 22"},
		{"too long a name", "recipe r " + strings.Repeat("x", 212) + " " + floating, "no 1"},
		{"an input that is not known", "recipe r x " + recipeOf(floats, `("/graft/store/`+zeros+`-y.recipe",["out"])`, "", "", outEnv), "no 70"},
		{"an output's name that does not fit", "recipe r " + strings.Repeat("n", 210) + " " + recipeOf(`("doc","","",""),`+byInputs, "", "", "", `("doc",""),`+outEnv), "no 1"},
		{"a name that does not fit with its tail", "recipe r " + long + " " + floating, "no 1"},
		{"a source that is no own object", "label a " + zeros + " a\nrecipe r x " + recipeOf(floats, "", `"%a"`, "", outEnv), ""},
	} {
		if c.want == "" {
			r := recipeOf(floats, "", `"/graft/store/`+zeros+`-a"`, "", outEnv)
			base, _ := filledBase(t, "x", r)
			c.want = "no 150 " + base + " " + zeros + "-a"
		}
		tells(t, c.line, c.want)
		fails(t, api.ErrGiven, c.line+"\nlookup r")
		// A nick that stood for something stands for it still.
		T := textBase("n", "hi")
		tells(t, lines("text r n hi", c.line, "lookup r"), c.want, "lookup "+T)
	}
	base, _ := filledBase(t, long[1:], floating)
	tells(t, "recipe r "+long[1:]+" "+floating, "recipe r "+base)
}

// A recipe's text may be longer than its line, by nicks; filled it may be too long though it was not.
func TestRecipeLongest(t *testing.T) {
	args := func(size int) string {
		l, rest := roomy(size)
		return l + "\nrecipe r x " + recipeOf(byInputs, "", "", `"file out hi","need `+rest+`"`, outEnv)
	}
	bare := len(recipeOf(byInputs, "", "", `"file out hi","need "`, outEnv))
	label := len("/graft/store/") + 32 + len("-x") // put in twice
	tells(t, args(api.MaxText-bare+1), "no 1")
	tells(t, args(api.MaxText-bare), "no 1")
	tells(t, args(api.MaxText-bare-2*label+1), "no 1")
	if got := last(t, args(api.MaxText-bare-2*label)); !strings.HasPrefix(got, "recipe r ") {
		t.Errorf("18.3: %q", got)
	}
}

func TestMakeRefused(t *testing.T) {
	step := func(args string) string { return "recipe r x " + recipeOf(floats, "", "", args, outEnv) }
	for _, c := range []struct{ what, line, want string }{
		{"it is not there", "label r " + zeros + " x.recipe", "no 7"},
		{"it is no recipe", "text r n hi", "no 61"},
		{"its label is another", "text r x.recipe " + strings.Replace(floating, "any", "none", 1) + "\ntext r y.recipe hi", "no 61"},
		{"no such builder", "recipe r x " + strings.Replace(floating, "builtin:make", "other", 1), "no 141"},
		{"no such step", step(`"fill out"`), "no 140"},
		{"a step that fails", step(`"file out hi","fail now"`), "no 140"},
		{"an output that is not there", step(`"file tmp hi"`), "no 142"},
		{"labels that do not follow", "text r x.recipe " + recipeOf(`("out","/graft/store/`+zeros+`-x","","")`, "", "", `"file out hi"`, `("out","/graft/store/`+zeros+`-x")`), "no 71"},
		{"it stands for what is not asked for", step(`"need /` + hashOf("0") + hashOf("0")[:20] + `"`), "no 70"},
		{"a sum that is another", "recipe r x " + recipeOf(fmt.Sprintf(`("out","","sha256","%s")`, strings.Repeat("0", 64)), "", "", `"file out hi"`, outEnv), "no 142"},
	} {
		got := told(t, lines(c.line, "make r"))
		if got[len(got)-1] != c.want {
			t.Errorf("18.3: %s: %q, want %q", c.what, got[len(got)-1], c.want)
		}
	}
	// In another store it is not.
	tells(t, lines(makes, "store 2", "make r"), "store 2", "no 7")
	// Something else came under an output's label.
	out := baseIn(last(t, lines(makes, "make r")))
	tells(t, lines("label o "+out[:32]+" other", "guest o other", "import", makes, "make r"), "no 121")
	tells(t, lines("label o "+out[:32]+" x", "guest o other", "import", makes, "make r", "label o "+out[:32]+" x", "show o"), "no 8", "label o "+out, showLine(out, 0, 0, "other"))
}

// A made is told by its key: its recipe's sum in base 16, and the output's name.
func TestMadeKey(t *testing.T) {
	got := last(t, lines(makes, "make r"))
	key, _, _ := strings.Cut(got, " ")
	digits, name, ok := strings.Cut(key, "!")
	if data, e, _ := digest.UnHex(digits); !ok || name != "out" || e != api.OK || len(data) != 32 {
		t.Errorf("18.3: %q", got)
	}
}
