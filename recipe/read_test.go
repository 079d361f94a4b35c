package recipe

import (
	"strings"
	"testing"

	"graft/api"
)

// refuseRead holds what Read answers to a text that is none.
func refuseRead(t *testing.T, text string, wantE api.Errno, wantAt int) {
	t.Helper()
	if r, e, at := Read(text); e != wantE || at != wantAt || !same(r, api.Recipe{}) {
		t.Errorf("P6.1: Read(%s) = %d, %d, %s, want %d, %d", short(text), e, at, short(plainText(r)), wantE, wantAt)
	}
	if e, at, _ := plainVerdict(text); e != wantE || at != wantAt {
		t.Errorf("the plain reading says %d, %d of %s, want %d, %d", e, at, short(text), wantE, wantAt)
	}
}

func plainVerdict(text string) (api.Errno, int, api.Recipe) {
	r, e, at := plainRead(text)
	return e, at, r
}

// P6.1, the examples 1 to 4.
func TestReadExamples(t *testing.T) {
	r, e, at := Read(one)
	if e != api.OK || at != 0 || !same(r, first()) || Mode(r) != 0 {
		t.Errorf("Read(%s) = %s, %d, %d", one, plainText(r), e, at)
	}
	if len(r.Outputs) != 1 || r.Outputs[0] != (api.Output{Name: "out"}) || r.System != "any" || r.Builder != "builtin:make" ||
		len(r.Env) != 1 || r.Env[0] != (api.Pair{Key: "out"}) || len(r.Inputs)+len(r.Sources)+len(r.Args) != 0 {
		t.Errorf("Read(%s) = %+v", one, r)
	}
	for _, c := range []struct {
		text string
		e    api.Errno
		at   int
	}{
		{"Derive(", api.ErrShort, 7}, {"Deriva", api.ErrTerm, 5}, {one + " ", api.ErrTail, len(one)}, {"", api.ErrShort, 0},
		{`Derive([],[],[],"a","b",[],[])`, api.ErrRecipe, 0}, {`Derive([("out","","")`, api.ErrTerm, 20},
		{strings.Replace(one, "builtin", `\x`, 1), api.ErrTerm, strings.Index(one, "builtin") + 1},
		{strings.Replace(one, "builtin", "\n", 1), api.ErrTerm, strings.Index(one, "builtin")},
		{" " + one, api.ErrTerm, 0}, {"derive", api.ErrTerm, 0}, {"D ", api.ErrTerm, 1}, {"Derive[", api.ErrTerm, 6},
		{"Derive([,", api.ErrTerm, 8}, {`Derive([("out","","",""),]`, api.ErrTerm, 25}, {`Derive([("out",""],`, api.ErrTerm, 17},
		{`Derive([("out\`, api.ErrShort, 14}, {`Derive([("out"`, api.ErrShort, 14}, {`Derive(["`, api.ErrTerm, 8}, {`Derive([])`, api.ErrTerm, 9},
		{`Derive([],[("",[""])],[(`, api.ErrTerm, 23}, {`Derive([],[("",["" `, api.ErrTerm, 18}, {`Derive([],[],[],[`, api.ErrTerm, 16},
	} {
		refuseRead(t, c.text, c.e, c.at)
	}
}

// P6.1: every text of the form, whatever the recipe, is told apart by its parts.
func TestReadParts(t *testing.T) {
	for _, r := range []api.Recipe{first(), full(), fixed(), floating()} {
		text := plainText(r)
		got, e, at := Read(text)
		if e != api.OK || at != 0 || !same(got, r) {
			t.Errorf("Read(%s) = %s, %d, %d", short(text), short(plainText(got)), e, at)
		}
		holdRecipe(t, r)
	}
}

// P6.1: a text that is cut short, or goes on behind its end.
func TestReadCut(t *testing.T) {
	for _, r := range []api.Recipe{first(), full(), fixed(), floating(), {}} {
		text := plainText(r)
		for n := range len(text) {
			refuseRead(t, text[:n], api.ErrShort, n)
		}
		for c := range 256 {
			refuseRead(t, text+string([]byte{byte(c)}), api.ErrTail, len(text))
		}
		refuseRead(t, text+text, api.ErrTail, len(text))
	}
}

// P6.1: another byte at every place, a byte more and a byte less.
func TestReadWrongByte(t *testing.T) {
	for _, r := range []api.Recipe{first(), full()} {
		text := plainText(r)
		for at := range len(text) {
			for c := range 256 {
				if len(text) < 100 || strings.IndexByte("\"\\[](),xn0 \n\x00\xff", byte(c)) >= 0 {
					holdRead(t, text[:at]+string([]byte{byte(c)})+text[at+1:])
					holdRead(t, text[:at]+string([]byte{byte(c)})+text[at:])
				}
			}
			holdRead(t, text[:at]+text[at+1:])
		}
	}
}

// P6.1: a string in each of the places for one.
func TestReadStringPlaces(t *testing.T) {
	for _, place := range stringPlaces(full()) {
		for c := range 256 {
			holdRead(t, place[0]+string([]byte{'a', byte(c)})+place[1])
			holdRead(t, place[0]+string([]byte{'\\', byte(c)})+place[1])
		}
		for _, inside := range []string{"", `\"`, `\\`, `\\\\n`, `\\\"`, `\n\r\t\"\\`, `\`, `\\\`, `"`, `""`, `","`, `"]`, `")`, "\xff\xfe\x00"} {
			holdRead(t, place[0]+inside+place[1])
		}
	}
}

// stringPlaces is, of each string of a recipe's text, what stands ahead of what it holds and behind that.
func stringPlaces(r api.Recipe) [][2]string {
	text := plainText(r)
	var out [][2]string
	for _, at := range tokens.FindAllStringIndex(text, -1) {
		if text[at[0]] == '"' {
			out = append(out, [2]string{text[:at[0]+1], text[at[1]-1:]})
		}
	}
	return out
}

// P6.1: every byte of a string, as it is and behind a backslash.
func TestReadBytes(t *testing.T) {
	ahead, behind, _ := strings.Cut(one, ",[],[(")
	ahead, behind = ahead+",[\"a", "b\"],[("+behind
	for c := range 256 {
		text := ahead + string([]byte{byte(c)}) + behind
		switch c {
		case '\n', '\r', '\t':
			refuseRead(t, text, api.ErrTerm, len(ahead))
		case '"', '\\': // the b behind it cannot stand then
			refuseRead(t, text, api.ErrTerm, len(ahead)+1)
		default:
			if r, e, _ := Read(text); e != api.OK || len(r.Args) != 1 || r.Args[0] != "a"+string([]byte{byte(c)})+"b" {
				t.Errorf("the byte %d: %d, %q", c, e, r.Args)
			}
		}
		text = ahead + string([]byte{'\\', byte(c)}) + behind
		means, ok := map[int]string{'"': "\"", '\\': "\\", 'n': "\n", 'r': "\r", 't': "\t"}[c]
		if !ok {
			refuseRead(t, text, api.ErrTerm, len(ahead)+1)
		} else if r, e, _ := Read(text); e != api.OK || len(r.Args) != 1 || r.Args[0] != "a"+means+"b" {
			t.Errorf("the escape %c: %d, %q", c, e, r.Args)
		}
	}
}

// P6.1: texts of MaxText bytes and of one more.
func TestReadLong(t *testing.T) {
	ahead, behind, _ := strings.Cut(one, ",[],[(")
	ahead, behind = ahead+",[\"", "\"],[("+behind
	for _, unit := range []string{"a", `\n`, "\x00", `\\`} {
		for more := range 4 {
			n := 65536 + more - 2 - len(ahead) - len(behind)
			inside := strings.Repeat(unit, n/len(unit)) + strings.Repeat("b", n%len(unit))
			text := ahead + inside + behind
			if len(text) > 65536 {
				refuseRead(t, text, api.ErrLong, 0)
				refuseRead(t, strings.Repeat(" ", len(text)), api.ErrLong, 0)
				refuseRead(t, text[:len(text)-1]+" ", api.ErrLong, 0)
				continue
			}
			r, e, at := Read(text)
			if e != api.OK || at != 0 || len(r.Args) != 1 || r.Args[0] != meant.Replace(inside) {
				t.Errorf("%d bytes: %d, %d", len(text), e, at)
			}
			refuseRead(t, text[1:], api.ErrTerm, 0)
			refuseRead(t, text[:len(text)-1], api.ErrShort, len(text)-1)
			refuseRead(t, text[:len(text)-1]+" ", api.ErrTerm, len(text)-1)
		}
	}
	refuseRead(t, strings.Repeat(" ", 65536), api.ErrTerm, 0)
	refuseRead(t, "Derive(["+strings.Repeat(`("","","",""),`, 4000), api.ErrShort, 8+4000*14)
}

// P6.1: lists longer than a recipe's may be are read whole ahead of Check: what is wrong behind them comes first.
func TestReadLongLists(t *testing.T) {
	for _, n := range []int{256, 257, 3000} {
		r := first()
		r.Args = make([]string, n)
		text := plainText(r)
		holdRead(t, text)
		refuseRead(t, text+"x", api.ErrTail, len(text))
		refuseRead(t, text[:len(text)-1], api.ErrShort, len(text)-1)
		if n > 256 {
			refuseRead(t, text, api.ErrLong, 5)
		}
		r = first()
		r.Inputs = []api.Input{{Recipe: y, Outputs: make([]string, n)}}
		holdRead(t, plainText(r))
	}
}

// P6.1: Check's errors come behind those of the text, with the field's number.
func TestReadChecks(t *testing.T) {
	wrong := []api.Recipe{{}, {System: "a"}}
	for _, s := range spoils() {
		r := full()
		s.turn(&r)
		wrong = append(wrong, r)
	}
	for i, r := range wrong {
		text := plainText(r)
		e, field := plainCheck(r)
		if e == api.OK {
			t.Fatalf("the recipe %d is right", i)
		}
		if len(text) <= 65536 {
			refuseRead(t, text, e, field)
			refuseRead(t, text+")", api.ErrTail, len(text))
			refuseRead(t, text[:len(text)-1], api.ErrShort, len(text)-1)
			refuseRead(t, text[:len(text)-1]+"]", api.ErrTerm, len(text)-1)
		}
	}
}

// P6.1 and P6.2: there and back, with texts that were spoilt too.
func TestReadMany(t *testing.T) {
	r := sourceOf(1)
	for range 3000 {
		some := someRecipe(r)
		text := plainText(some)
		if got, e, at := Read(text); e != api.OK || at != 0 || !same(got, some) {
			t.Fatalf("Read(%s) = %d, %d", short(text), e, at)
		}
		at := r.IntN(len(text))
		holdRead(t, text[:at]+someText(r)+text[at+r.IntN(min(3, len(text)-at)):])
	}
}
