package desk

import (
	"fmt"
	"strconv"
	"strings"
	"testing"

	"graft/api"
)

// DOC.md: the table of calls and transactions, and what the whole promises, as far as plays show it.

// transactions is how many the present store has done behind commands.
func transactions(t *testing.T, commands string) int {
	t.Helper()
	n, err := strconv.Atoi(strings.TrimPrefix(last(t, commands+"\ncrash 0 0 0"), "crash "))
	if err != nil {
		t.Fatal(err)
	}
	return n
}

func TestTransactions(t *testing.T) {
	ring := lines(abc, "guest a of $b", "guest b $a", "guest c $a", "import")
	needs := makes + "\nrecipe s y " + recipeOf(floats, `("%r",["out"])`, "", `"file out ho"`, outEnv)
	for _, c := range []struct {
		head, line string
		want       int
	}{
		{abc, "import", 0},
		{lines(abc, "guest a hi", "guest b ho"), "import", 1},
		{lines(abc, "guest a hi", "import", "guest a hi"), "import", 0},
		{lines(abc, "guest a hi", "import", "guest a hi", "guest b hi"), "import", 1},
		{lines(abc, "guest a $b"), "import", 0},
		{abc, "guest a hi", 0},
		{"", "text t x 1", 1},
		{"text t x 1", "text u x 1", 0},
		{"", "text t .x 1", 0},
		{"", "tree t x 1", 1},
		{"tree t x 1", "tree u x 1", 0},
		{ring, "rewrite a", 1},
		{ring, "rewrite c", 1},
		{ring + "\nrewrite c", "rewrite a b c", 0},
		{ring + "\nrewrite a", "rewrite c", 1},
		{ring + "\nrewrite c", "rewrite a! c!", 0},
		{lines(abc, "guest a hi", "import"), "rewrite a b", 0},
		{"text t x 1", "rewrite t", 0},
		{ring + "\nrewrite c", "lookup a\nverify a!\nshow a\nlist\nsames\nlive\nfiles\nstat", 0},
		{"text t x 1", "keep r t", 1},
		{"text t x 1\nkeep r t", "keep r t", 0},
		{"text t x 1\ntext u x 2\nkeep r t", "keep r u", 1},
		{"text t x 1\nkeep r t", "release r", 1},
		{"text t x 1", "release r", 0},
		{"text t x 1", "advance p t", 1},
		{"text t x 1\nadvance p t", "advance p t", 0},
		{"text t x 1\nadvance p t", "switch p 1", 0},
		{"text t x 1\nadvance p t", "switch p 0", 1},
		{"text t x 1\nadvance p t", "trim p 0", 0},
		{"text t x 1\nadvance p t\nswitch p 0", "trim p 0", 1},
		{"text t x 1\nkeep r t", "collect 999", 0},
		{ring, "collect 0", 0},
		{ring, "collect 999", 2}, // c, and the ring of a and b
		{ring + "\ntext t x 1", "collect 999999", 3},
		{"text t x 1", makes, 1},
		{makes, makes, 0},
		{makes, "make r", 1},
		{makes + "\nmake r", "make r", 0},
		{needs, "make s", 2},
		{needs + "\nmake r", "make s", 1},
		{"text t x 1", "push t", 0},
		{"text t x 1\npush t", "pull t", 0},
		{"text t x 1\ntext u y $t\npush u\nstore 2", "pull u", 1},
		{"text t x 1\npush t\nstore 2\npull t", "pull t", 0},
		{ring, "carry 2 c", 0},

		{"text t x 1", "compact", 0}, // one, but no batch
		{"text t x 1", asked(api.Ask{Op: api.OpList}), 0},
		{"text t x 1", asked(api.Ask{Op: api.OpText, Text: "y", Data: []byte("2")}), 1},
		{"text t x 1", "key k 00\nlabel a " + zeros + " a\nstore 1", 0},
	} {
		if got := transactions(t, lines(c.head, c.line)) - transactions(t, c.head); got != c.want {
			t.Errorf("%q behind %s: %d transactions, want %d", c.line, short(c.head), got, c.want)
		}
	}
}

// What is carried is one transaction, or none, of the store that it goes to.
func TestCarryTransactions(t *testing.T) {
	head := lines(abc, "guest a of $b", "guest b $a", "import", "carry 2 a")
	if one, two := transactions(t, head+"\nstore 2"), transactions(t, head+"\ncarry 2 b\nstore 2"); one != 1 || two != 1 {
		t.Errorf("W7: %d and %d transactions", one, two)
	}
}

// wovenBy is a play that brings in so many guests, woven together, under digits that begin with a letter, and renames them.
func wovenBy(letter string, n int) string {
	var out []string
	for i := range n {
		out = append(out, fmt.Sprintf("label n%d %s%s x%d", i, letter, numbered(i * 7)[1:], i))
	}
	for i := range n {
		out = append(out, fmt.Sprintf("guest n%d at $n%d and %%n%d, not $n%d", i, (i+1)%n, (i*i+1)%n, i))
	}
	out = append(out, "import", "rewrite n0")
	for i := range n {
		out = append(out, fmt.Sprintf("lookup n%d", i), fmt.Sprintf("show n%d!", i), fmt.Sprintf("verify n%d!", i))
	}
	return lines(out...)
}

// W3, W4: what is renamed hangs on content alone: the digits that guests came with have no part in it.
func TestContentAlone(t *testing.T) {
	for n := 1; n < 9; n++ {
		one := endOf(told(t, wovenBy("0", n)), 3*n)
		two := endOf(told(t, "text t x 1\ntree u y 2\n"+wovenBy("z", n)), 3*n)
		three := endOf(told(t, wovenBy("5", n)+"\nstore 2\n"+wovenBy("7", n)), 3*n)
		if lines(one...) != lines(two...) || lines(one...) != lines(three...) {
			t.Errorf("W4: %d guests:\n%s\nand\n%s", n, lines(one...), lines(two...))
		}
	}
}

// W5: renamed once more, nothing changes.
func TestRenamedAgain(t *testing.T) {
	head := wovenBy("3", 5)
	first := last(t, head+"\nstat")
	if got := last(t, head+"\nrewrite n0\nrewrite n3 n1\nrewrite n0! n2!\nstat"); got != first {
		t.Errorf("W5: %s, and then %s", first, got)
	}
}

// W10, W12: what was pushed and pulled, or carried, reads there as here.
func TestReadsAlike(t *testing.T) {
	shows := "show n0\nshow n1\nshow n2"
	head := wovenBy("3", 3)
	here := endOf(told(t, head+"\n"+shows), 3)
	for _, way := range []string{"push n0\nstore 2\npull n0", "key k 00\npush n1\nkey m 01\npush n1\nstore 4\npull n2", "carry 3 n0\nstore 3", "push n0 n0!\nstore 2\npull n0! n0"} {
		if there := endOf(told(t, lines(head, way, shows)), 3); lines(there...) != lines(here...) {
			t.Errorf("W10: by %q:\n%s\nwant\n%s", way, lines(there...), lines(here...))
		}
	}
	own := "show n0!\nshow n1!\nshow n2!\nverify n1!"
	here = endOf(told(t, head+"\n"+own), 4)
	if there := endOf(told(t, lines(head, "push n0!", "store 2", "pull n0!", own)), 4); lines(there...) != lines(here...) {
		t.Errorf("W10: %s\nwant\n%s", lines(there...), lines(here...))
	}
}

// W10: with any one byte turned a pull is refused and changes nothing, or does what it would have done.
func TestTurnedNeverComes(t *testing.T) {
	head := "key k 0102\ntext t x 1\ntext u y of $t\npush u"
	want := lines(endOf(told(t, head+"\nstore 2\npull u\nlist"), 6)...)
	w := worldBehind(t, head)
	for i, f := range w.files {
		for place := range f.Data {
			got := told(t, fmt.Sprintf("%s\nturn %d %d %d\nstore 2\npull u\nlist", head, i, place, f.Data[place]^byte(1<<(place%8))))
			if end := endOf(got, 2); strings.HasPrefix(end[0], "no ") && end[1] == "list 0" {
				continue
			}
			if lines(endOf(got, 6)...) != want {
				t.Errorf("W10: byte %d of %s turned: %q", place, f.Name, got)
			}
		}
	}
}

// W11: what is made hangs on recipes and inputs alone.
func TestMadeAlike(t *testing.T) {
	needs := "recipe s y " + recipeOf(floats, `("%r",["out"])`, "", `"file out ho"`, outEnv)
	want := lines(endOf(told(t, lines(makes, needs, "make s")), 2)...)
	for _, other := range []string{
		lines(makes, "make r", needs, "make s"),
		lines("text t x 1", makesAs("q", "z"), "make q", makes, needs, "make s", "make s"),
		lines(makes, needs, "make s", "compact", "crash 0 0 0", "make s"),
		lines(makes, needs, "make s", "crash 3 0 0", "make s"),
		lines("store 3", makes, needs, "make s"),
	} {
		if got := lines(endOf(told(t, other), 2)...); got != want {
			t.Errorf("W11: %s makes\n%s\nwant\n%s", other, got, want)
		}
	}
}
