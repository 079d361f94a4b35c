package desk

import (
	"fmt"
	"strings"
	"testing"

	"graft/api"
	"graft/card"
	"graft/wire"
)

// 18.3: keys, the depot, carrying, asking.

// worldBehind is the world behind commands of which all go well.
func worldBehind(t *testing.T, commands string) *world {
	t.Helper()
	w := newWorld()
	if e, line := w.play(commands, new(book)); e != api.OK {
		t.Fatalf("P18.1: %s: %d in line %d", short(commands), e, line)
	}
	return w
}

// marksOf is the names of the keys that signed a card of the depot.
func marksOf(t *testing.T, w *world, base string) string {
	t.Helper()
	for _, f := range w.files {
		if f.Name == base[:32]+".card" {
			c, e, _ := card.Read(string(f.Data))
			if e != api.OK {
				t.Fatalf("10: %d", e)
			}
			var out []string
			for _, m := range c.Marks {
				out = append(out, m.Key)
			}
			return strings.Join(out, " ")
		}
	}
	t.Fatalf("no card of %s", base)
	return ""
}

func TestKeys(t *testing.T) {
	tellsAll(t, "key k 00\nkey k 00\nkey .k ff\nkey # 0123456789abcdef", "key k", "key k", "key .k", "key #")
	T := textBase("x", "1")
	for _, c := range []struct{ keys, want string }{
		{"", ""},
		{"key k 00\n", "k"},
		{"key k 00\nkey a 01\nkey z 02\n", "a k z"},
		{"key k 00\nkey a 01\nkey k 02\n", "a k"},
	} {
		w := worldBehind(t, c.keys+"text t x 1\npush t")
		if got := marksOf(t, w, T); got != c.want {
			t.Errorf("18.3: %q: marks by %q", c.keys, got)
		}
		both(t, c.keys+"text t x 1\npush t\nfiles")
	}
	// In turn, each behind those that there are: of two with one name the mark is by the last.
	files := func(keys string) string { return showFiles(worldBehind(t, keys+"text t x 1\npush t").files) }
	if files("key k 00\nkey k 01\n") != files("key k 01\n") || files("key k 01\nkey k 00\n") != files("key k 00\n") || files("key k 00\n") == files("key k 01\n") {
		t.Errorf("18.3: keys are not taken in turn")
	}
	// A key that came behind a push signs at the next one.
	w := worldBehind(t, "key k 00\ntext t x 1\npush t\nkey m 01\npush t")
	if got := marksOf(t, w, T); got != "k m" {
		t.Errorf("18.3: marks by %q", got)
	}
}

func TestPushRefused(t *testing.T) {
	head := lines(abc, "text t x 1")
	many := ""
	for i := range 17 {
		many += fmt.Sprintf("key k%d 00\n", i)
	}
	for _, c := range []struct{ commands, want string }{
		{"push a", "no 7"},
		{"push t a", "no 7"},
		{"key .k 00\npush t", "no 102"},
		{"key " + strings.Repeat("x", 212) + " 00\npush t", "no 102"},
		{"key k " + strings.Repeat("00", 255) + "\npush t", "pushed 3"},
		{"key k " + strings.Repeat("00", 256) + "\npush t", "no 2"},
		{many + "push t", "no 5"},
		{many[:strings.LastIndex(many, "key")] + "push t", "pushed 3"},
		{"push t\nturn 2 0 0\npush t", "no 170"}, // depot.card
		{"push t\nturn 0 0 0\npush t", "no 171"}, // its card
		{"push t\nturn 1 0 0\npush t", "no 171"}, // its archive
	} {
		tells(t, lines(head, c.commands), c.want)
	}
	// Refused, the depot has the files that it had.
	tells(t, lines(head, "push t", "push t a", "key .k 00", "push t", "files"), append([]string{"pushed 3", "no 7", "key .k", "no 102"}, endOf(told(t, head+"\npush t\nfiles"), 4)...)...)
	tells(t, lines(head, "push a", "files"), "no 7", "files 0")
}

func endOf(list []string, n int) []string { return list[len(list)-n:] }

func TestFiles(t *testing.T) {
	tellsAll(t, "files", "files 0")
	w := worldBehind(t, "text t x 1\ntext u y $t\npush u")
	want := []string{"pushed 5", "files 5"}
	for _, f := range w.files {
		want = append(want, fmt.Sprintf("%s %d %s", f.Name, len(f.Data), plainSum(f.Data)))
	}
	tells(t, "text t x 1\ntext u y $t\npush u\nfiles", want...)
	got := told(t, "text t x 1\ntext u y $t\npush u\nfiles")[4:]
	if !strings.Contains(got[2], ".ark.gz ") || !strings.HasPrefix(got[4], "depot.card ") || len(got) != 5 {
		t.Errorf("18.3: files %q", got)
	}
	// Pushed once more, and by another store: the files are the play's.
	tells(t, "text t x 1\npush t\npush t\nstore 2\ntext u y 2\npush u\nfiles", append([]string{"pushed 3", "pushed 3", "store 2", "text u " + textBase("y", "2"), "pushed 5"},
		endOf(told(t, "text t x 1\ntext u y 2\npush t u\nfiles"), 6)...)...)
}

func TestPull(t *testing.T) {
	T := textBase("x", "1")
	U := textBase("y", T[:32], T)
	head := "text t x 1\ntext u y $t\npush u\n"
	tells(t, head+"pull u\nstore 2\npull u\npull u t\nlist", "pulled 0", "store 2", "pulled 2", min(T, U), max(T, U), "pulled 0", "list 2", min(T, U), max(T, U))
	tells(t, head+"store 2\npull t\npull u\nverify u", "pulled 1", T, "pulled 1", U, "right")
	// Sixteen of them.
	var texts, nicks string
	for i := range 16 {
		texts += fmt.Sprintf("text n%d x %d\n", i, i)
		nicks += fmt.Sprintf(" n%d", i)
	}
	got := told(t, texts+"push"+nicks+"\nstore 2\npull"+nicks+"\nlist")
	if got[16] != "pushed 33" || got[18] != "pulled 16" || got[35] != "list 16" || lines(got[19:35]...) != lines(got[36:]...) {
		t.Errorf("18.3: %q", got)
	}
}

func TestPullRefused(t *testing.T) {
	head := lines(abc, "text t x 1", "key k 00", "push t", "store 2")
	for _, c := range []struct{ commands, want string }{
		{"pull a", "no 7"},
		{"pull t a", "no 7"},
		{"key .k 00\npull t", "pulled 1"}, // a key's name is asked for by pushing alone
		{"turn 2 0 0\npull t", "no 170"},
		{"turn 0 0 0\npull t", "no 170"}, // its card
		{"turn 1 0 0\npull t", "no 171"}, // its archive
		{"store 1\nturn 0 0 0\npull t", "pulled 0"},
	} {
		got := told(t, lines(head, c.commands))
		if got[len(got)-1] != c.want && got[len(got)-2] != c.want {
			t.Errorf("18.3: %s: %q, want %q", c.commands, endOf(got, 2), c.want)
		}
	}
	tells(t, lines(abc, "pull a"), "no 170") // there is no depot yet
	// A mark by another key than those that there are when it is pulled.
	tells(t, lines("text t x 1", "push t", "key k 00", "store 2", "pull t", "list"), "no 103", "list 0")
	tells(t, lines("text t x 1", "push t", "store 2", "pull t"), "pulled 1", textBase("x", "1"))
	// Something else is there under a label's hash part.
	T := textBase("x", "1")
	tells(t, lines("text t x 1", "push t", "store 2", "label g "+T[:32]+" other", "guest g hi", "import", "pull t", "list"), "imported 1", "no 121", "list 1", T[:32]+"-other")
}

func TestTurn(t *testing.T) {
	head := "text t x 1\npush t"
	w := worldBehind(t, head)
	for i, f := range w.files {
		for _, place := range []int{0, 1, len(f.Data) - 1} {
			for _, value := range []int{0, 1, 255} {
				line := fmt.Sprintf("turn %d %d %d", i, place, value)
				x := worldBehind(t, head+"\n"+line)
				want := []byte(string(f.Data))
				want[place] = byte(value)
				if got := split(x.out.String()); got[len(got)-1] != "turn "+f.Name || string(x.files[i].Data) != string(want) {
					t.Errorf("18.3: %s: %q", line, got[len(got)-1])
				}
				for k, other := range x.files {
					if k != i && string(other.Data) != string(w.files[k].Data) {
						t.Errorf("18.3: %s turned %s", line, other.Name)
					}
				}
			}
		}
		fails(t, api.ErrGiven, fmt.Sprintf("%s\nturn %d %d 0", head, i, len(f.Data)))
		fails(t, api.ErrGiven, fmt.Sprintf("%s\nturn %d 0 256", head, i))
	}
	fails(t, api.ErrGiven, head+"\nturn 3 0 0")
	fails(t, api.ErrGiven, "turn 0 0 0")
	// And back again: all is as it was.
	data := w.files[0].Data
	tells(t, fmt.Sprintf("%s\nturn 0 0 7\nturn 0 0 %d\nstore 2\npull t", head, data[0]), "store 2", "pulled 1", textBase("x", "1"))
}

func TestCarry(t *testing.T) {
	head := lines(abc, "guest a in $b", "guest b $b", "guest c hi", "import")
	tells(t, lines(head, "carry 2 a", "carry 2 a", "store 2", "list", "show a"), "carried 2", "carried 2", "store 2", "list 2", baseA, baseB, showLine(baseA, 0, 1, "in "+hashB))
	tells(t, lines(head, "carry 1 a b", "carry 4 c a", "store 4", "list"), "carried 2", "carried 3", "store 4", "list 3", baseA, baseB, baseC)
	tells(t, lines(head, "carry 003 b", "store 3", "list", "store 1", "list"), "carried 1", "store 3", "list 1", baseB, "store 1", "list 3", baseA, baseB, baseC)
	// Own objects stay: what needs them is refused, as long as they are not there.
	own := lines(abc, "text t x 1", "guest a $t", "import")
	T := textBase("x", "1")
	tells(t, lines(own, "carry 2 t", "store 2", "list"), "carried 0", "store 2", "list 0")
	tells(t, lines(own, "carry 2 a t", "store 2", "text t x 1", "store 1", "carry 2 t a"), "no 150 "+baseA+" "+T, "store 2", "text t "+T, "store 1", "carried 1")
	// A great one, in many pieces.
	l, rest := roomy(300000)
	got := told(t, lines(l, "guest l "+rest, "import", "carry 2 l", "show l", "store 2", "show l"))
	if n := len(got); got[n-4] != "carried 1" || got[n-3] != got[n-1] || !strings.HasPrefix(got[n-1], "show "+zeros) {
		t.Errorf("18.3: %q", endOf(got, 4))
	}
}

func TestCarryRefused(t *testing.T) {
	head := lines(abc, "guest a hi", "import")
	tells(t, lines(head, "carry 2 b", "carry 2 a b", "store 2", "list"), "no 7", "no 7", "store 2", "list 0")
	tells(t, lines(head, "store 2", "guest a other", "import", "store 1", "carry 2 a"), "no 8 "+baseA)
	tells(t, lines(head, "store 2", "label c "+hashA+" other", "guest c hi", "import", "store 1", "carry 2 a"), "no 121 "+baseA)
}

// saying is an answer's bytes.
func saying(a api.Say) string {
	b, e := wire.EncodeSay(a)
	if e != api.OK {
		panic("no answer")
	}
	return fmt.Sprintf("%x", b)
}

func TestAsk(t *testing.T) {
	hello := saying(api.Say{Text: "graft-wire-1", Number: 1})
	T := textBase("x", "1")
	list := saying(api.Say{Labels: []api.Label{labelOf(T)}})
	tellsAll(t, "ask 00", "said")
	tellsAll(t, "ask 01000000000000", "said")
	tellsAll(t, asked()[:len(asked())-2], "said")
	tellsAll(t, asked(), "said "+hello)
	tellsAll(t, asked()+"00", "said "+hello)
	tells(t, "text t x 1\n"+asked(api.Ask{Op: api.OpList}), "said "+hello+list)
	tells(t, "text t x 1\nstore 2\n"+asked(api.Ask{Op: api.OpList}), "said "+hello+saying(api.Say{}))
	tells(t, "text t x 1\n"+asked(api.Ask{Op: api.OpList}, api.Ask{Op: api.OpBye}, api.Ask{Op: api.OpList}), "said "+hello+list+saying(api.Say{}))
	tellsAll(t, "ask "+strings.Repeat("00", 8), "said "+saying(api.Say{Err: api.ErrVoid}))
	tellsAll(t, "ask "+strings.Repeat("ff", 30), "said "+saying(api.Say{Err: api.ErrVoid}))
	// What a session does it does to the present store; each ask is a session of its own.
	tells(t, lines("store 3", asked(api.Ask{Op: api.OpText, Text: "x", Data: []byte("1")}), "list"), "said "+hello+saying(api.Say{Labels: []api.Label{labelOf(T)}}), "list 1", T)
	alone, _ := wire.Encode(api.Ask{Op: api.OpList})
	tells(t, lines(asked(), fmt.Sprintf("ask %x", alone)), "said "+hello, "said "+saying(api.Say{Err: api.ErrVoid}))
	// A rename over a session gives no nick a second one.
	head := lines(abc, "guest a hi", "import", asked(api.Ask{Op: api.OpRewrite, Labels: []api.Label{labelOf(baseA)}, Number: 1}), "sames")
	if got := last(t, head); !strings.HasPrefix(got, baseA+" ") {
		t.Errorf("18.3: %q", got)
	}
	fails(t, api.ErrGiven, head+"\nshow a!")
	for _, line := range []string{"ask", "ask ", "ask 0", "ask 0g", "ask 00 00", "ask FF"} {
		fails(t, api.ErrGiven, line)
	}
}

// turns is the commands that lay a text over the bytes of a file of the depot, at the one place where another text of that length stands.
func turns(t *testing.T, w *world, file int, old, new string) string {
	t.Helper()
	data := string(w.files[file].Data)
	at := strings.Index(data, old)
	if at < 0 || len(old) != len(new) || strings.Count(data, old) != 1 {
		t.Fatalf("%q stands %d times in %s", old, strings.Count(data, old), w.files[file].Name)
	}
	var out []string
	for i := range len(new) {
		out = append(out, fmt.Sprintf("turn %d %d %d", file, at+i, new[i]))
	}
	return lines(out...)
}

// A card that says another word of how its object is called.
func TestPullWrong(t *testing.T) {
	head := "text t x 1\npush t"
	turned := lines(head, turns(t, worldBehind(t, head), 0, ": text\n", ": flat\n"), "store 2")
	tells(t, lines(turned, "pull t", "list"), "no 156", "list 0")
	// Signed, the card is not trusted: that is asked for first.
	signed := "key k 00\n" + head
	turned = lines(signed, turns(t, worldBehind(t, signed), 0, ": text\n", ": flat\n"), "store 2")
	tells(t, lines(turned, "pull t", "list"), "no 103", "list 0")
}
