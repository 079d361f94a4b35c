package desk

import (
	"fmt"
	"math/rand/v2"
	"slices"
	"strings"
	"testing"

	"graft/api"
)

// Plays by chance, by both readings of the chapter.

const longNick = "n0123456789abcde"

// chance writes lines by chance.
type chance struct {
	*rand.Rand
}

func (c chance) nick() string {
	n := pick(c.Rand, "a", "a", "a", "b", "b", "c", "d", "t", "u", "r", "s", longNick)
	if c.IntN(6) == 0 {
		n += "!"
	}
	return n
}

func (c chance) plainNick() string { return strings.TrimSuffix(c.nick(), "!") }

func (c chance) nicks() string {
	out := c.nick()
	for c.IntN(3) == 0 {
		out += " " + c.nick()
	}
	return out
}

// rest is a text with nicks in it, most of which are some of a play's first ones.
func (c chance) rest() string {
	out := ""
	for range c.IntN(4) {
		out += pick(c.Rand, "hi", "x", " ", "  ", "$$", "%%", "\t", "# ", "$a", "$b", "$c", "%a", "%t", "$t ", "$"+c.nick(), "%"+c.nick()+" ", "$a$a", zeros, hashOf("1"))
	}
	return out
}

func (c chance) name() string {
	return pick(c.Rand, "app", "app", "app", "lib", "lib", "x", "x", "x", "note", "note", "x.recipe", ".x", "a/b", strings.Repeat("n", 211), strings.Repeat("n", 212), "no\tname")
}

func (c chance) word() string { return pick(c.Rand, "r", "r", "r", "p", "p", "p", "p", "q", ".r", "#") }

func (c chance) number() string {
	return pick(c.Rand, "0", "1", "1", "2", "3", "007", "4", "120", "999999999")
}

func (c chance) recipe() string {
	out := pick(c.Rand, `("out","","r:sha256","")`, `("out","","r:sha256","")`, `("out","","","")`, `("doc","","",""),("out","","","")`, `("out","","sha256","8f434346648f6b96df89dda901c5176b10a6d83961dd3c1ac88b59b2dc327aa4")`)
	input := pick(c.Rand, ``, ``, `("%r",["out"])`, `("%s",["out"])`, `("%a",["out"])`)
	source := pick(c.Rand, ``, ``, `"%t"`, `"%u"`, `"%a!"`)
	builder := pick(c.Rand, "builtin:make", "builtin:make", "builtin:make", "builtin:make", "other")
	step := pick(c.Rand, `"file out hi"`, `"file out hi"`, `"file out at $${out}"`, `"dir out","file out/a 1"`, `"copy out %t"`, `"fail"`, `"fall out"`, ``)
	env := `("out","")`
	if strings.Contains(out, "doc") {
		env = `("doc",""),("out","")`
		step += `,"file doc told"`
	}
	text := fmt.Sprintf(`Derive([%s],[%s],[%s],"any","%s",[%s],[%s])`, out, input, source, builder, strings.TrimPrefix(step, ","), env)
	if c.IntN(12) == 0 {
		return text[:c.IntN(len(text))]
	}
	return text
}

func (c chance) request() string {
	switch c.IntN(5) {
	case 0:
		return pick(c.Rand, "ask 00", "ask 0000000000000000", "ask ffffffffffffffffff")
	case 1:
		return asked()
	case 2:
		return asked(api.Ask{Op: api.OpList}, api.Ask{Op: api.OpBye}, api.Ask{Op: api.OpList})
	case 3:
		return asked(api.Ask{Op: api.OpText, Text: "note", Data: []byte("asked")}, api.Ask{Op: api.OpList})
	}
	return importing(api.Object{Label: labelOf(hashOf("1") + "-app"), Ark: fileArk("hi")})
}

// line is one that most of the time can be done, if the nicks that it says stand for something.
func (c chance) line() string {
	switch c.IntN(40) {
	case 0:
		return "store " + pick(c.Rand, "1", "1", "2", "2", "3", "04")
	case 1, 2, 3:
		return "label " + c.plainNick() + " " + hashOf(pick(c.Rand, "1", "2", "3", "4")) + " " + pick(c.Rand, "app", "app", "lib", "x")
	case 4, 5, 6, 7:
		return "guest " + c.nick() + " " + c.rest()
	case 8:
		return "link " + c.nick() + " " + c.rest()
	case 9, 10, 11, 12:
		return "import"
	case 13, 14, 15:
		return "text " + c.plainNick() + " " + c.name() + " " + c.rest()
	case 16:
		return "tree " + c.plainNick() + " " + c.name() + pick(c.Rand, "", " "+c.rest())
	case 17, 18, 19, 20:
		return "rewrite " + c.nicks()
	case 21:
		return pick(c.Rand, "lookup ", "verify ", "show ") + c.nick()
	case 22:
		return pick(c.Rand, "list", "sames", "live", "files", "stat", "compact")
	case 23:
		return pick(c.Rand, "keep ", "advance ") + c.word() + " " + c.nick()
	case 24:
		return "release " + c.word()
	case 25:
		return pick(c.Rand, "switch ", "trim ") + c.word() + " " + c.number()
	case 26:
		return "collect " + c.number()
	case 27, 28, 29:
		return "recipe " + pick(c.Rand, "r", "s", c.plainNick()) + " " + c.name() + " " + c.recipe()
	case 30, 31:
		return "make " + pick(c.Rand, "r", "s", c.nick())
	case 32:
		return "key " + pick(c.Rand, "k", "k", "m", ".k") + " " + pick(c.Rand, "00", "0102", "ff")
	case 33, 34:
		return "push " + c.nicks()
	case 35, 36:
		return "pull " + c.nicks()
	case 37:
		return "turn " + pick(c.Rand, "0", "0", "1") + " " + pick(c.Rand, "0", "5", "40") + " " + pick(c.Rand, "0", "255", "65")
	case 38:
		return pick(c.Rand, "carry "+pick(c.Rand, "1", "2", "3")+" "+c.nicks(), c.request())
	}
	return "crash " + pick(c.Rand, "0", "0", "1", "2", "3", "999") + " " + c.number() + " " + c.number()
}

// seasoned is a line with other blanks than it needs, ahead of words that are no part of a rest; or with lines that are passed over.
func (c chance) seasoned(line string) string {
	switch c.IntN(8) {
	case 0:
		return "  " + strings.Replace(line, " ", "   ", 1)
	case 1:
		return pick(c.Rand, "", "   ", "#", " # "+line) + "\n" + line
	}
	return line
}

// starts is lines with which a script may begin.
func starts() []string {
	twins := "label a " + hashOf("1") + " app\nlabel b " + hashOf("2") + " app\n"
	ring := "guest a of $b\nguest b $a\nimport\n"
	makes := `recipe r app Derive([("out","","r:sha256","")],[],[],"any","builtin:make",["file out hi"],[("out","")])` + "\n"
	return []string{
		"",
		labels("a", "b", "c") + "\ntext t note of t\ntree u tree of u\n",
		labels("a", "b") + "\n" + ring + "rewrite a\ntext t note $a!\n",
		twins + ring,
		labels("a", "b", "c") + "\ntext t note of t\nguest c in $t\nguest a in %c\nimport\nkey k 00\npush c\n",
		labels("a") + "\ntext t note of t\n" + makes + "make r\nadvance p r\nadvance p t\nkeep r t\n",
	}
}

// script is lines of which none is a fault as long as it is played alone: those that would be one are left out, but perhaps for the last.
func (c chance) script(most int) string {
	start := pick(c.Rand, starts()...)
	out, w := start, newPlainWorld()
	for _, line := range split(start) {
		w.play(line)
	}
	for range c.IntN(most) {
		line := c.line()
		e := w.play(line)
		if e == api.OK {
			out += c.seasoned(line) + "\n"
		} else if c.IntN(60) == 0 {
			return out + line + pick(c.Rand, "", "\n", "\nlist\n")
		}
	}
	return out
}

func TestScripts(t *testing.T) {
	seen := map[string]int{}
	faults := map[api.Errno]int{}
	rounds := 2500
	if testing.Short() {
		rounds = 100
	}
	for seed := range uint64(rounds) {
		script := chance{sourceOf(seed)}.script(60)
		_, e, _ := both(t, script)
		faults[e]++
		w, _, _ := plainPlay(script)
		for _, s := range w.seen {
			seen[s]++
		}
	}
	if testing.Short() {
		return
	}
	var lack []string
	for command := range plainRows() {
		if seen[command+" ok"] == 0 {
			lack = append(lack, command+" ok")
		}
	}
	for _, s := range []string{
		"import 8", "import 121", "import 150", "text 22", "text 1", "text 150", "tree 22", "rewrite 7", "rewrite 72", "rewrite 151",
		"lookup 7", "verify 7", "show 7", "keep 130", "keep 7", "release 130", "advance 131", "advance 7", "switch 131", "trim 131",
		"recipe 22", "recipe 150", "recipe 70", "make 7", "make 61", "make 140", "make 141", "make 142", "push 7", "push 102", "push 171",
		"pull 7", "pull 170", "pull 103", "carry 7", "carry 150", "link 34",
	} {
		if seen[s] == 0 {
			lack = append(lack, s)
		}
	}
	slices.Sort(lack)
	if len(lack) > 0 || faults[api.ErrGiven] == 0 || faults[api.OK] == 0 {
		t.Errorf("never seen: %q; faults: %v", lack, faults)
	}
}

// anyLine is a command, or nearly one, with words and bytes behind it by chance.
func (c chance) anyLine(commands []string) string {
	out := pick(c.Rand, "", "", "", " ", "#", "\t") + pick(c.Rand, commands...)
	for range c.IntN(5) {
		out += pick(c.Rand, " ", " ", " ", "  ", "", "\t", "\x00")
		out += pick(c.Rand, "a", "a!", "b", "t", "r", "z", "1", "2", "0", "00", "255", "256", "1234567890", zeros, "app", ".x", "k", "$a", "%t", "$$", "$", "%z", "!", "A", "ff", "\xff", "#", string(rune('a'+c.IntN(26))))
	}
	return out
}

// Lines by chance, most of which are faults: each behind the same play, by both readings.
func TestAnyLine(t *testing.T) {
	var commands []string
	for command := range plainRows() {
		commands = append(commands, command)
	}
	slices.Sort(commands)
	rounds := 6000
	if testing.Short() {
		rounds = 500
	}
	c := chance{sourceOf(77)}
	seen := map[api.Errno]int{}
	for range rounds {
		line := c.anyLine(commands)
		plain, _, _ := plainPlay(grounds)
		want := plain.play(line)
		w := newWorld()
		b := new(book)
		w.play(grounds, b)
		seen[want]++
		if got := w.line(line, b); got != want || w.out.String() != plain.text || stateOf(w) != plainStateOf(plain) {
			t.Fatalf("P18.1: %q: %d, want %d\n%s\nwant\n%s", line, got, want, w.out.String(), plain.text)
		}
	}
	if seen[api.OK] < rounds/20 || seen[api.ErrGiven] < rounds/20 || seen[api.ErrWord] < rounds/20 {
		t.Errorf("seen: %v", seen)
	}
}
