package desk

import (
	"fmt"
	"strings"
	"testing"

	"graft/api"
)

// 18.1: lines, words, numbers; P18.1: faults.

func TestLines(t *testing.T) {
	for _, c := range []struct {
		commands string
		want     string
	}{
		{"", ""},
		{"\n", ""},
		{"\n\n\n", ""},
		{" ", ""},
		{"   \n  ", ""},
		{"#", ""},
		{"# live\n#live\n  # live\n##", ""},
		{"live", "live 0\n"},
		{"live\n", "live 0\n"},
		{"live\n\n", "live 0\n"},
		{"\n live \n\n# x\n   live", "live 0\nlive 0\n"},
		{"store 2\nlive", "store 2\nlive 0\n"},
		{"store 2 ", "store 2\n"},
		{"   store    2   ", "store 2\n"},
		{"key #k 00", "key #k\n"},
		{"key k\tk\r\x00\xff 00", "key k\tk\r\x00\xff\n"},
	} {
		if text, e, line := Play(c.commands); text != c.want || e != api.OK || line != 0 {
			t.Errorf("18.1: Play(%q) = %q, %d, %d; want %q", c.commands, text, e, line, c.want)
		}
		both(t, c.commands)
	}
}

func TestFaultLines(t *testing.T) {
	for _, c := range []struct {
		commands string
		want     string
		e        api.Errno
		line     int
	}{
		{"store 5", "", api.ErrGiven, 1},
		{"Store 1", "", api.ErrWord, 1},
		{"nothing", "", api.ErrWord, 1},
		{"\n\nnothing\nlive", "", api.ErrWord, 3},
		{"live\n# nothing\n\n  nothing  \nlive", "live 0\n", api.ErrWord, 4},
		{"live\nstore 9\nnothing", "live 0\n", api.ErrGiven, 2},
		{"live\nnothing\nstore 9", "live 0\n", api.ErrWord, 2},
		{"live\tlive", "", api.ErrWord, 1},
		{"\tlive", "", api.ErrWord, 1},
		{"live\t", "", api.ErrWord, 1},
		{"live\r\nlive\r\n", "", api.ErrWord, 1},
		{"live\x00", "", api.ErrWord, 1},
		{"live\u00a0", "", api.ErrWord, 1},
		{"live\v", "", api.ErrWord, 1},
		{"store 1\t", "", api.ErrGiven, 1},
		{"store 1\r", "", api.ErrGiven, 1},
		{"store\t1", "", api.ErrWord, 1},
		{"live #", "", api.ErrGiven, 1},
		{"live x", "", api.ErrGiven, 1},
		{"store", "", api.ErrGiven, 1},
		{"store  ", "", api.ErrGiven, 1},
		{"store # 1", "", api.ErrGiven, 1},
		{"store 1 1", "", api.ErrGiven, 1},
		// Two faults at once: the word is asked for first.
		{"nothing $x", "", api.ErrWord, 1},
		{"stores 5 6", "", api.ErrWord, 1},
		{"stor 5 6", "", api.ErrWord, 1},
		{"LIVE x", "", api.ErrWord, 1},
	} {
		if text, e, line := Play(c.commands); text != c.want || e != c.e || line != c.line {
			t.Errorf("P18.1: Play(%q) = %q, %d, %d; want %q, %d, %d", c.commands, text, e, line, c.want, c.e, c.line)
		}
		both(t, c.commands)
	}
}

func TestLongest(t *testing.T) {
	for _, c := range []struct {
		commands string
		want     string
		e        api.Errno
	}{
		{strings.Repeat(" ", api.MaxDesk), "", api.OK},
		{strings.Repeat(" ", api.MaxDesk+1), "", api.ErrLong},
		{strings.Repeat("\n", api.MaxDesk), "", api.OK},
		{"live" + strings.Repeat(" ", api.MaxDesk-4), "live 0\n", api.OK},
		{"live" + strings.Repeat(" ", api.MaxDesk-3), "", api.ErrLong},
		{"live\n#" + strings.Repeat("x", api.MaxDesk-6), "live 0\n", api.OK},
		{"live\n#" + strings.Repeat("x", api.MaxDesk-5), "", api.ErrLong},
		{"nothing\n" + strings.Repeat("x", api.MaxDesk), "", api.ErrLong},
	} {
		if text, e, line := Play(c.commands); text != c.want || e != c.e || line != 0 {
			t.Errorf("P18.1: Play(%s) = %q, %d, %d; want %q, %d, 0", short(c.commands), text, e, line, c.want, c.e)
		}
	}
}

func TestMostLines(t *testing.T) {
	n := api.MaxDesk / 5
	text, e, line := Play(strings.Repeat("live\n", n))
	if text != strings.Repeat("live 0\n", n) || e != api.OK || line != 0 {
		t.Errorf("P18.1: %d lines: %d bytes, %d, %d", n, len(text), e, line)
	}
	if text, e, line := Play(strings.Repeat("\n", api.MaxDesk-1) + "x"); text != "" || e != api.ErrWord || line != api.MaxDesk {
		t.Errorf("P18.1: the last of %d lines: %q, %d, %d", api.MaxDesk, text, e, line)
	}
}

func TestNumbers(t *testing.T) {
	for _, word := range []string{"0", "7", "10", "007", "000000000", "000000001", "999999999"} {
		tellsAll(t, "collect "+word, "swept 0 freed 0")
	}
	for _, word := range []string{"1234567890", "0000000000", "0000000001", "+1", "-1", "-0", "1.0", "1,0", "1_0", "1e3", "0x1", "x", "1x", "$1", "1!", "１", "1\t", "\x00", ":", "1:", "/", "1/"} {
		fails(t, api.ErrGiven, "collect "+word)
	}
	tellsAll(t, "store 000000003", "store 3")
	tellsAll(t, "text t x hi\nadvance p t\nswitch p 00\nswitch p 001\ntrim p 05", "text t "+textBase("x", "hi"), "p at 1", "p at 0", "p at 1", "p less 0")
}

// grounds is a play behind which each kind of argument has words that it takes: the nicks a, a!, t and r, and three files.
const grounds = "label a " + zeros + " app\nguest a hi\nimport\nrewrite a\nlabel b " + zeros + " b\ntext t note hi\n" +
	`recipe r x Derive([("out","","r:sha256","")],[],[],"any","builtin:make",["file out hi"],[("out","")])` + "\npush t\n"

func rightWords(kind string) []string {
	switch kind {
	case "STORE":
		return []string{"1", "4", "02", "000000003"}
	case "NEW":
		return []string{"a", "n", "0", "9z", longNick, strings.Repeat("z", 16)}
	case "NICK":
		return []string{"a", "a!", "b", "t", "r"}
	case "HASH":
		return []string{zeros, hashOf("z"), "0123456789abcdfghijklmnpqrsvwxyz"}
	case "NAME":
		return []string{"app", "-", "A+-._?=9", strings.Repeat("x", 211)}
	case "WORD":
		return []string{"x", ".", "$z", "%", "#", "a/b", "\t", "\xff", strings.Repeat("x", 300)}
	case "NUMBER":
		return []string{"0", "1", "00", "999999999"}
	case "HEX":
		return []string{"00", "ff", "0123456789abcdef", strings.Repeat("0a", 300)}
	case "FILE":
		return []string{"0", "2", "01"}
	case "PLACE":
		return []string{"0", "1", "00040"}
	case "BYTE":
		return []string{"0", "255", "007"}
	}
	panic("no kind " + kind)
}

func wrongWords(kind string) []string {
	numbers := []string{"x", "-1", "+1", "1234567890", "1.", "a", "1\t"}
	switch kind {
	case "STORE":
		return append(numbers, "0", "5", "12", "000000005", "00")
	case "NEW":
		return []string{"A", "aB", "a!", "n!", "!", "a_b", "a-b", "a.", strings.Repeat("z", 17), longNick + "f", "é", "\t", "a\r", "$a", "%a", "#", "a`", "a{", "a/", "a:"}
	case "NICK":
		return []string{"z", "A", "a!!", "b!", "!", "!a", "a!b", "$a", "%a", longNick, strings.Repeat("a", 17), strings.Repeat("a", 17) + "!", "a\t", "\xff"}
	case "HASH":
		return []string{zeros[1:], zeros + "0", zeros + "-", zeros[1:] + "e", zeros[1:] + "t", zeros[1:] + "A", zeros[1:] + "!", "0", zeros + zeros, "a"}
	case "NAME":
		return []string{".app", ".", "a/b", "a!", "a\tb", "é", strings.Repeat("x", 212), "a\r", "#"}
	case "WORD":
		return nil
	case "NUMBER":
		return numbers
	case "HEX":
		return []string{"0", "000", "0g", "FF", "0x", "0x00", "f f", "é0", "-1"}
	case "FILE":
		return append(numbers, "3", "999999999")
	case "PLACE":
		return append(numbers, "999999", "999999999")
	case "BYTE":
		return append(numbers, "256", "999999999")
	}
	panic("no kind " + kind)
}

var rightRests = []string{"", " ", "hi", "  hi  ", "$a", "%a!", "$t", "$$5 and 100%%", "#"}

var wrongRests = []string{"$", "%", " $", "5$", "100%", "$ a", "% a", "$z", "%z", "$!", "%!", "$A", "$b!", "$az", "$%", "%$", "$$$", "%%%", "$a$", "%a%", "$a $z", "$\xff", "$#"}

// faulty tells whether a line behind grounds is a fault, and holds that a fault changes nothing.
func faulty(t *testing.T, line string) bool {
	t.Helper()
	w := newWorld()
	b := new(book)
	if e, n := w.play(grounds, b); e != api.OK {
		t.Fatalf("P18.1: %d, %d", e, n)
	}
	before, told := stateOf(w), w.out.String()
	e, n := w.play(line, b)
	if e == api.OK {
		return false
	}
	if e != api.ErrGiven || n != 1 || stateOf(w) != before || w.out.String() != told {
		t.Errorf("P18.1: %q: %d, %d, and behind it\n%s\nwant\n%s", line, e, n, stateOf(w), before)
	}
	return true
}

// wordKinds is the kinds of a command's words, and whether REST stands behind them.
func wordKinds(kinds []string) ([]string, bool) {
	var out []string
	for _, k := range kinds {
		switch k {
		case "REST":
			return out, true
		case "NICKS":
			k = "NICK"
		}
		out = append(out, k)
	}
	return out, false
}

func TestArguments(t *testing.T) {
	for command, kinds := range plainRows() {
		words, rest := wordKinds(kinds)
		line := []string{command}
		for _, k := range words {
			line = append(line, rightWords(k)[0])
		}
		if faulty(t, strings.Join(line, " ")) || faulty(t, "  "+strings.Join(line, "  ")+"  ") {
			t.Errorf("18.3: %q is a fault", line)
		}
		for n := range len(line) - 1 {
			few := strings.Join(line[:n+1], " ")
			if !faulty(t, few) || !faulty(t, few+"   ") {
				t.Errorf("P18.1: %q: too few, and no fault", few)
			}
		}
		for _, more := range []string{"x", "1", "00", "#", "$z"} {
			many := strings.Join(line, " ") + " " + more
			if !rest && !faulty(t, many) {
				t.Errorf("P18.1: %q: too many, and no fault", many)
			}
		}
		for i, k := range words {
			for _, x := range rightWords(k) {
				if faulty(t, replaced(line, i+1, x)) {
					t.Errorf("18.3: %q is a fault", replaced(line, i+1, x))
				}
			}
			for _, x := range wrongWords(k) {
				if !faulty(t, replaced(line, i+1, x)) {
					t.Errorf("P18.1: %q is no fault", replaced(line, i+1, x))
				}
			}
		}
		if !rest {
			continue
		}
		for _, x := range rightRests {
			if faulty(t, strings.Join(line, " ")+" "+x) {
				t.Errorf("18.1: %q is a fault", strings.Join(line, " ")+" "+x)
			}
		}
		for _, x := range wrongRests {
			if !faulty(t, strings.Join(line, " ")+" "+x) {
				t.Errorf("18.1: %q is no fault", strings.Join(line, " ")+" "+x)
			}
		}
	}
}

func replaced(line []string, at int, word string) string {
	out := append([]string{}, line...)
	out[at] = word
	return strings.Join(out, " ")
}

func TestSeveralNicks(t *testing.T) {
	for _, head := range []string{"rewrite", "push", "pull", "carry 2"} {
		for n := range 19 {
			line := head + strings.Repeat(" t", n)
			if got, want := faulty(t, line), n < 1 || n > 16; got != want {
				t.Errorf("18.3: %q: %v", line, got)
			}
		}
		for _, x := range wrongWords("NICK") {
			for _, line := range []string{head + " t " + x, head + " " + x + " t", head + strings.Repeat(" t", 15) + " " + x} {
				if !faulty(t, line) {
					t.Errorf("18.3: %q is no fault", line)
				}
			}
		}
	}
}

// The digits and the name stand apart: they are not read as one base.
func TestLabelParts(t *testing.T) {
	for _, line := range []string{
		"label a " + zeros + "- -app",
		"label a " + zeros + "-app x",
		"label a " + zeros[1:] + " -app",
		"label a " + zeros + "-app",
		"label a " + zeros + " app app",
	} {
		fails(t, api.ErrGiven, line)
	}
	tellsAll(t, "label a "+zeros+" -app", "label a "+zeros+"--app")
}

// Every command there is, and no other one, is taken.
func TestCommands(t *testing.T) {
	b := new(book)
	b.row("live")
	rows := plainRows()
	if len(b.rows) != len(rows) {
		t.Errorf("18.3: %d commands, want %d", len(b.rows), len(rows))
	}
	for _, r := range b.rows {
		if _, ok := rows[r.word]; !ok {
			t.Errorf("18.3: there is no command %s", r.word)
		}
		for _, other := range []string{strings.ToUpper(r.word), r.word + "s", r.word[1:], r.word + "!", r.word + "\t", fmt.Sprint(r.word, 1)} {
			if _, is := rows[other]; !is {
				fails(t, api.ErrWord, other)
			}
		}
	}
}
