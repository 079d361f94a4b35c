package recipe

import (
	"strings"
	"testing"

	"graft/api"
)

func refusePrint(t *testing.T, r api.Recipe, wantE api.Errno, want int) {
	t.Helper()
	if text, e, n := Print(r); text != "" || e != wantE || n != want {
		t.Errorf("P6.2: Print = %s, %d, %d, want %d, %d", short(text), e, n, wantE, want)
	}
}

// P6.2.
func TestPrint(t *testing.T) {
	for _, c := range []struct {
		r    api.Recipe
		want string
	}{
		{first(), one},
		{floating(), `Derive([("doc","","r:sha256",""),("lib","","r:sha256",""),("out","","r:sha256","")],[("` + hash + `a.recipe",["out"]),("` + y +
			`",["doc","out"])],["` + hash + `b","` + hash + `b.c","` + x + `"],"any","builtin:make",["b","","a\"\\\n\r\t` + "\x00\xff" +
			`","b"],[("a","b"),("doc",""),("lib",""),("out",""),("p","")])`},
		{fixed(), `Derive([("out","` + x + `","sha256","` + sum + `")],[],[],"any","builtin:make",[],[("out","` + x + `")])`},
	} {
		if text, e, n := Print(c.r); text != c.want || e != api.OK || n != 0 {
			t.Errorf("Print = %s, %d, %d, want %s", short(text), e, n, short(c.want))
		}
	}
}

// P6.2: every byte of a string.
func TestPrintBytes(t *testing.T) {
	means := map[int]string{'"': `\"`, '\\': `\\`, '\n': `\n`, '\r': `\r`, '\t': `\t`}
	for c := range 256 {
		want, ok := means[c]
		if !ok {
			want = string([]byte{byte(c)})
		}
		text := "a" + string([]byte{byte(c)}) + "b" + string([]byte{byte(c), byte(c)})
		r := first()
		r.System, r.Builder, r.Args = text, text, []string{text, "", text}
		r.Env = []api.Pair{{Key: text, Value: text}, {Key: "out"}}
		quoted := `"a` + want + "b" + want + want + `"`
		whole := `Derive([("out","","","")],[],[],` + quoted + "," + quoted + ",[" + quoted + `,"",` + quoted + "],[(" + quoted + "," + quoted + `),("out","")])`
		if got, e, n := Print(r); got != whole || e != api.OK || n != 0 {
			t.Errorf("the byte %d: Print = %s, %d, %d, want %s", c, short(got), e, n, short(whole))
		}
		holdRecipe(t, r)
	}
}

// P6.2: texts of MaxText bytes and of one more; an escape that would go over the end.
func TestPrintLong(t *testing.T) {
	room := 65536 - len(one) - 2
	for _, c := range []string{"a", "\x00", "\xff", "\n", "\"", "\\", "\r", "\t"} {
		wide := len(escapes.Replace(c))
		for more := -2; more <= 2; more++ {
			r := first()
			n := room + more
			r.Args = []string{strings.Repeat("b", n%wide) + strings.Repeat(c, n/wide)}
			if more <= 0 {
				if text, e, k := Print(r); len(text) != 65536+more || e != api.OK || k != 0 {
					t.Errorf("%d bytes: %d, %d, %d", 65536+more, len(text), e, k)
				}
			} else {
				refusePrint(t, r, api.ErrLong, -1)
			}
			holdRecipe(t, r)
		}
	}
	for _, turn := range []func(*api.Recipe){
		func(r *api.Recipe) { r.System += strings.Repeat("a", 65536) },
		func(r *api.Recipe) { r.Builder += strings.Repeat("a", 1<<22) },
		func(r *api.Recipe) { r.Env = append(r.Env, api.Pair{Key: strings.Repeat("z", 65536)}) },
		func(r *api.Recipe) { r.Env = append(r.Env, api.Pair{Key: "z", Value: strings.Repeat("z", 65536)}) },
		func(r *api.Recipe) { r.Args = []string{strings.Repeat("\n", 40000)} },
		func(r *api.Recipe) { r.Inputs = manyInputs(256, 256) },
	} {
		r := first()
		turn(&r)
		holdRecipe(t, r)
		refusePrint(t, r, api.ErrLong, -1)
	}
}

// P6.2: Check's errors come ahead of the text's length.
func TestPrintChecks(t *testing.T) {
	for _, s := range spoils() {
		for _, long := range []bool{false, true} {
			r := full()
			if long {
				r.Args[0] = strings.Repeat("a", 65536)
			}
			s.turn(&r)
			e, field := plainCheck(r)
			refusePrint(t, r, e, field)
		}
	}
}

// One great string may stand at many places of a recipe: its text is not made whole.
func TestPrintGreat(t *testing.T) {
	great := strings.Repeat("a", 1<<24)
	r := first()
	for range 256 {
		r.Args = append(r.Args, great)
	}
	refusePrint(t, r, api.ErrLong, -1)
	var p printer
	p.recipe(r)
	if !p.full() || len(p.text) > 2*api.MaxText {
		t.Errorf("%d bytes of a text that is refused", len(p.text))
	}
}

// P6.2: Read(Print(r)) is r.
func TestPrintMany(t *testing.T) {
	r := sourceOf(2)
	for range 3000 {
		some := someRecipe(r)
		text, e, n := Print(some)
		if e != api.OK || n != 0 || text != plainText(some) {
			t.Fatalf("Print = %s, %d, %d, want %s", short(text), e, n, short(plainText(some)))
		}
		if back, e, at := Read(text); e != api.OK || at != 0 || !same(back, some) {
			t.Fatalf("Read(Print(r)) = %s, %d, %d, want %s", short(plainText(back)), e, at, short(text))
		}
	}
}
