package desk

import (
	"fmt"
	"math/rand/v2"
	"strings"
	"testing"

	"graft/api"
	"graft/ark"
	"graft/digest"
	"graft/label"
	"graft/wire"
)

// What the tests' plays are made of, and what they tell.

const zeros = "00000000000000000000000000000000"

func sourceOf(seed uint64) *rand.Rand { return rand.New(rand.NewPCG(seed, 18)) }

func pick[T any](source *rand.Rand, list ...T) T { return list[source.IntN(len(list))] }

func lines(list ...string) string { return strings.Join(list, "\n") }

// hashOf is 32 times a digit.
func hashOf(digit string) string { return strings.Repeat(digit, 32) }

// numbered is 32 digits that are unlike all others of this kind, and in no order.
func numbered(i int) string {
	h := digest.Fold(digest.Of([]byte(fmt.Sprint(i))))
	return digest.Base32(h[:])
}

// labels is a line for each digit: the nick is a letter, the name the nick.
func labels(nicks ...string) string {
	var out []string
	for i, n := range nicks {
		out = append(out, fmt.Sprintf("label %s %s %s", n, hashOf(string("123456789abcdfgh"[i])), n))
	}
	return lines(out...)
}

// told plays commands of which all go well, and answers the lines.
func told(t *testing.T, commands string) []string {
	t.Helper()
	text, e, line := Play(commands)
	if e != api.OK || line != 0 {
		t.Fatalf("P18.1: Play(%s): %d in line %d behind\n%s", short(commands), e, line, text)
	}
	return split(text)
}

func split(text string) []string {
	if text == "" {
		return nil
	}
	return strings.Split(strings.TrimSuffix(text, "\n"), "\n")
}

// tells holds the last answers of commands, of which all go well, against lines.
func tells(t *testing.T, commands string, want ...string) {
	t.Helper()
	got := told(t, commands)
	if len(got) > len(want) {
		got = got[len(got)-len(want):]
	}
	if lines(got...) != lines(want...) {
		t.Errorf("18.3: %s ends with\n%s\nwant\n%s", short(commands), lines(got...), lines(want...))
	}
}

// tellsAll holds all answers of commands, of which all go well, against lines.
func tellsAll(t *testing.T, commands string, want ...string) {
	t.Helper()
	if got := told(t, commands); lines(got...) != lines(want...) || len(got) != len(want) {
		t.Errorf("18.3: %s answers\n%s\nwant\n%s", short(commands), lines(got...), lines(want...))
	}
}

// fails holds that the last line of commands can't be done, by this error, and that all lines ahead of it can.
func fails(t *testing.T, want api.Errno, commands string) {
	t.Helper()
	ahead, last := "", commands
	if at := strings.LastIndexByte(commands, '\n'); at >= 0 {
		ahead, last = commands[:at], commands[at+1:]
	}
	before, _, _ := Play(ahead)
	text, e, line := Play(commands)
	if e != want || line != strings.Count(commands, "\n")+1 || text != before {
		t.Errorf("P18.1: the last line %s: %d in line %d, want %d in %d; behind\n%s", short(last), e, line, want, strings.Count(commands, "\n")+1, text)
	}
}

// last is the last line of what commands answer.
func last(t *testing.T, commands string) string {
	t.Helper()
	got := told(t, commands)
	if len(got) == 0 {
		t.Fatalf("%s answers nothing", short(commands))
	}
	return got[len(got)-1]
}

// baseIn is the last word of a line: most answers end with a base.
func baseIn(line string) string { return line[strings.LastIndexByte(line, ' ')+1:] }

func short(s string) string {
	if len(s) > 400 {
		s = s[:200] + " .. " + s[len(s)-200:]
	}
	return fmt.Sprintf("%q", s)
}

func labelOf(base string) api.Label {
	l, e, _ := label.ParseBase(base)
	if e != api.OK {
		panic("no base " + base)
	}
	return l
}

func arkOf(n api.Node) []byte {
	b, e := ark.Print(n)
	if e != api.OK {
		panic("no archive")
	}
	return b
}

func fileArk(s string) []byte { return arkOf(api.Node{Kind: api.KindFile, Data: []byte(s)}) }

// asked is the command that feeds a session with a greeting, and with requests behind it.
func asked(requests ...api.Ask) string {
	var data []byte
	for _, a := range append([]api.Ask{{Op: api.OpHello, Number: 1}}, requests...) {
		b, e := wire.Encode(a)
		if e != api.OK {
			panic(fmt.Sprint("no request: ", e))
		}
		data = append(data, b...)
	}
	return fmt.Sprintf("ask %x", data)
}

// importing is the command by which objects are imported over a session: any guests, not only files and links.
func importing(objects ...api.Object) string {
	stream, e := wire.Export(objects)
	if e != api.OK {
		panic(fmt.Sprint("no stream: ", e))
	}
	return asked(api.Ask{Op: api.OpImport, Data: stream, Number: 8})
}

// textBase is what a text is called.
func textBase(name, data string, refs ...string) string {
	var list []api.Label
	for _, r := range refs {
		list = append(list, labelOf(r))
	}
	l, e := label.Text(name, []byte(data), list)
	if e != api.OK {
		panic("no text")
	}
	return plainBase(l)
}

// treeBase is what a directory is called whose one entry is an executable file with these bytes.
func treeBase(name, data string) string {
	l, e := label.Source(name, digest.Of(treeArk(data)), nil, false)
	if e != api.OK {
		panic("no tree")
	}
	return plainBase(l)
}

func treeArk(data string) []byte {
	file := api.Node{Kind: api.KindFile, Exec: true, Data: []byte(data)}
	return arkOf(api.Node{Kind: api.KindDir, List: []api.Entry{{Name: "file", Node: file}}})
}
