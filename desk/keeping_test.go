package desk

import (
	"fmt"
	"strings"
	"testing"

	"graft/api"
)

// 18.3: roots, profiles, collecting.

func TestKeep(t *testing.T) {
	T, U := textBase("x", "1"), textBase("y", "2")
	two := "text t x 1\ntext u y 2\n"
	tells(t, two+"keep r t\nkeep r t\nlive\nkeep r u\nlive\nkeep s t\nlive", "kept r", "kept r", "live 1", T, "kept r", "live 1", U, "kept s", "live 2", min(T, U), max(T, U))
	tells(t, two+"keep r t\nrelease r\nlive\nrelease r", "kept r", "released r", "live 0", "no 130")
	// What a root leads to is live.
	tells(t, "text t x 1\ntext u y $t\nkeep r u\nlive", "live 2", min(T, textBase("y", T[:32], T)), max(T, textBase("y", T[:32], T)))
}

func TestKeepRefused(t *testing.T) {
	head := lines(abc, "text t x 1")
	for _, c := range []struct{ line, want string }{
		{"keep .r t", "no 130"},
		{"keep a/b t", "no 130"},
		{"keep " + strings.Repeat("x", 212) + " t", "no 130"},
		{"keep r a", "no 7"},
		{"keep .r a", "no 130"},
		{"release r", "no 130"},
		{"release .r", "no 130"},
		{"release \xff", "no 130"},
		{"keep " + longName + " t", "kept " + longName},
	} {
		tells(t, lines(head, c.line), c.want)
	}
}

// A shelf has room for so many values.
func TestKeepMany(t *testing.T) {
	out := "text t x 1\n"
	for i := range api.MaxValues {
		out += fmt.Sprintf("keep r%d t\n", i)
	}
	got := told(t, out+"keep r0 t\nkeep more t\nrelease r0\nkeep more t\nstat")
	tail := got[len(got)-5:]
	if tail[0] != "kept r0" || tail[1] != "no 5" || tail[2] != "released r0" || tail[3] != "kept more" || !strings.Contains(tail[4], `"values":1024}`) {
		t.Errorf("18.3: %q", tail)
	}
}

func TestProfiles(t *testing.T) {
	T, U := textBase("x", "1"), textBase("y", "2")
	two := "text t x 1\ntext u y 2\n"
	tells(t, two+"advance p t\nadvance p t\nadvance p u\nlive\nswitch p 1\nadvance p t\nadvance p u\nswitch p 0\nswitch p 3\ntrim p 1\nlive\ntrim p 0",
		"p at 1", "p at 1", "p at 2", "live 2", min(T, U), max(T, U), "p at 1", "p at 1", "p at 3", "p at 0", "p at 3", "p less 2", "live 1", U, "p less 0")
	tells(t, two+"advance p t\nadvance p u\nswitch p 0\ntrim p 0\nlive\nadvance p t", "p less 2", "live 0", "p at 3")
	tells(t, two+"advance p t\nadvance q u\nswitch p 0\ntrim p 0\ntrim q 0\nlive", "p less 1", "q less 0", "live 1", U)
}

func TestProfilesRefused(t *testing.T) {
	head := lines(abc, "text t x 1", "advance p t")
	for _, c := range []struct{ line, want string }{
		{"advance .p t", "no 131"},
		{"advance p a", "no 7"},
		{"advance .p a", "no 131"},
		{"advance " + strings.Repeat("x", 212) + " t", "no 131"},
		{"switch p 2", "no 131"},
		{"switch p 999999999", "no 131"},
		{"switch q 0", "no 131"},
		{"switch .p 0", "no 131"},
		{"trim q 0", "no 131"},
		{"trim .p 0", "no 131"},
		{"trim p 999999999", "p less 0"},
	} {
		tells(t, lines(head, c.line), c.want)
	}
}

// A profile has room for so many generations.
func TestProfileMany(t *testing.T) {
	out := "text t x 1\ntext u y 2\n"
	for i := range api.MaxGens / 2 {
		out += "advance p t\nadvance p u\n"
		if i%20 == 0 {
			out += "compact\n"
		}
	}
	got := told(t, out+"advance p u\nadvance p t\ntrim p 248\nadvance p t")
	if tail := got[len(got)-5:]; lines(tail...) != lines("p at 250", "p at 250", "no 5", "p less 2", "p at 251") {
		t.Errorf("18.3: %q", tail)
	}
}

func TestCollect(t *testing.T) {
	T, U := textBase("x", "1"), textBase("y", "2")
	two := "text t x 1\ntext u y 2\n"
	tellsAll(t, "collect 0\ncollect 999999999", "swept 0 freed 0", "swept 0 freed 0")
	tells(t, two+"collect 0\ncollect 1\ncollect 1\ncollect 1\nlist", "swept 0 freed 0", "swept 1 freed 120", min(T, U), "swept 1 freed 120", max(T, U), "swept 0 freed 0", "list 0")
	tells(t, two+"collect 121\nlist", "swept 2 freed 240", min(T, U), max(T, U), "list 0")
	tells(t, two+"keep r t\ncollect 999999999\nlist", "swept 1 freed 120", U, "list 1", T)
	// What refers goes ahead of what it refers to; one archive of two is freed with the second one.
	V := textBase("z", T[:32], T)
	tells(t, "text t x 1\ntext v z $t\ncollect 999999999", "swept 2 freed "+number(120+len(fileArk(T[:32]))), V, T)
	tells(t, lines(abc, "guest a hi", "guest b hi", "import", "collect 1", "collect 1"), "swept 2 freed 120", baseA, baseB, "swept 0 freed 0")
	// A nick of what has gone stands for its label.
	tells(t, two+"collect 999\nshow t", "no 7")
}

// tightPlay brings in, at one go, a ring of nine guests, one of which has so many bytes, and a guest p that has another one's archive.
func tightPlay(size, more int) string {
	out := []string{"label r0 z" + numbered(0)[1:] + " " + longName}
	for i := range 8 {
		out = append(out, fmt.Sprintf("label r%d z%s x", i+1, numbered(i + 1)[1:]))
	}
	out = append(out, "label p "+hashA+" "+strings.Repeat("p", 1+more), "guest p $r2", "guest r0 $r1"+strings.Repeat("%r0", size/257)+strings.Repeat(".", size%257))
	for i := range 8 {
		out = append(out, fmt.Sprintf("guest r%d $r%d", i+1, (i+2)%9))
	}
	return lines(append(out, "import")...)
}

// tight is tightPlay with so many bytes that so much room is left in the journal.
func tight(t *testing.T, left int) string {
	t.Helper()
	size := 1 << 19
	w := newWorld()
	w.play(tightPlay(size, 0), new(book))
	// An archive's bytes come by eight, a name's one by one.
	room := w.shelf().Stat().Room - left
	out := tightPlay(size+room/8*8, room%8)
	w = newWorld()
	w.play(out, new(book))
	if got := w.shelf().Stat(); got.Room != left || got.Objects != 10 {
		t.Fatalf("%d objects, and room for %d bytes", got.Objects, got.Room)
	}
	return out
}

// Where the journal is full behind compacting too, what went is told, and behind it the refusal.
func TestCollectRefused(t *testing.T) {
	none := tight(t, 20)
	tells(t, none+"\ncollect 999999999\nlive\ncollect 0", "swept 0 freed 0", "no 5", "live 0", "swept 0 freed 0")
	both(t, none+"\ncollect 999999999\nlist")
	some := tight(t, 80)
	p := told(t, some)[9]
	tells(t, some+"\ncollect 999999999\nlookup p\nstat", "swept 1 freed 0", baseIn(p), "no 5", "no 7", last(t, some+"\ncompact\ncollect 1\nstat"))
	both(t, some+"\ncollect 999999999\nlist\nstat\ncrash 1 0 0\nlist")
}
