package desk

import (
	"fmt"
	"slices"
	"strconv"
	"strings"
	"testing"

	"graft/api"
)

// 18.3: compact, crash, stat.

// statLine is what stat answers.
func statLine(arks, bytes int, full string, mades, objects, sames, values int) string {
	return fmt.Sprintf(`{"arks":%d,"bytes":%d,"full":%s,"mades":%d,"objects":%d,"sames":%d,"values":%d}`, arks, bytes, full, mades, objects, sames, values)
}

// ofRoom is which part of a store's room so many bytes are.
func ofRoom(used int) string { return strconv.FormatFloat(float64(used)/1048576, 'f', -1, 64) }

func TestStat(t *testing.T) {
	tellsAll(t, "stat", statLine(0, 0, "0.000049591064453125", 0, 0, 0, 0))
	if ofRoom(52) != "0.000049591064453125" {
		t.Fatal(ofRoom(52))
	}
	// An ark's entry and a put's, in one payload, and the batch's commit.
	put := func(name string, ark, refs int) int { return 5 + ark + 5 + 33 + len(name) + 4 + refs + 4 + 1 + 4 }
	used := 52 + 22 + put("x", 120, 0) + 26
	tells(t, "text t x 1\nstat", statLine(1, 120, ofRoom(used), 0, 1, 0, 0))
	tells(t, "text t x 1\nstore 2\nstat", statLine(0, 0, ofRoom(52), 0, 0, 0, 0))
	tells(t, "text t x 1\nkeep r t\nstat", statLine(1, 120, ofRoom(used+22+5+6+4+13+33+1+26), 0, 1, 0, 1))
	tells(t, "text t x 1\ntext u y 2\ntree v x 1\nstat", statLine(3, 240+len(treeArk("1")), ofRoom(52+2*(used-52)+22+26+put("x", len(treeArk("1")), 0)), 0, 3, 0, 0))
	// Two objects with one archive, a same, a made.
	one := put("a", 120, 0)
	tells(t, lines(abc, "guest a hi", "guest b hi", "import", "stat"), statLine(1, 120, ofRoom(52+22+one+put("b", 0, 0)-5+26), 0, 2, 0, 0))
	if got := last(t, lines(abc, "guest a hi", "import", "rewrite a", makes, "make r", "stat")); !strings.HasPrefix(got, `{"arks":2,"bytes":`) || !strings.HasSuffix(got, `,"mades":1,"objects":4,"sames":1,"values":0}`) {
		t.Errorf("18.3: %q", got)
	}
	// All room in use: nearly 1.
	got := last(t, filling()+"\nstat")
	if !strings.Contains(got, `,"full":0.9999`) {
		t.Errorf("18.3: %q", got)
	}
}

// Where there is neither a journal nor room, nothing is full.
func TestFullness(t *testing.T) {
	for _, c := range []struct {
		s    api.Stat
		want float64
	}{
		{api.Stat{}, 0},
		{api.Stat{Journal: 0, Room: 7}, 0},
		{api.Stat{Journal: 7, Room: 0}, 1},
		{api.Stat{Journal: 1, Room: 2}, 1.0 / 3},
		{api.Stat{Journal: 52, Room: 1048524}, 52.0 / 1048576},
	} {
		if got := fullness(c.s); got != c.want {
			t.Errorf("18.3: %v is full to %v, want %v", c.s, got, c.want)
		}
	}
}

func TestCompact(t *testing.T) {
	head := lines(abc, "guest a hi", "import", "rewrite a", "keep r a!", "keep r a", "collect 999")
	before := told(t, lines(head, "list", "sames", "live", "show a!", "crash 0 0 0"))
	after := told(t, lines(head, "compact", "list", "sames", "live", "show a!", "crash 0 0 0"))
	if i := slices.Index(after, "compact"); i < 0 || lines(slices.Delete(after, i, i+1)...) != lines(before...) {
		t.Errorf("18.3: compacting changes\n%s\nto\n%s", lines(before...), lines(after...))
	}
	tellsAll(t, "compact\ncompact\nstat\ncrash 0 0 0", "compact", "compact", statLine(0, 0, ofRoom(52), 0, 0, 0, 0), "crash 0")
	tells(t, "text t x 1\nkeep r t\nrelease r\ncompact\nstat", statLine(1, 120, ofRoom(30+22+22+5+120+5+34+4+4+1+4), 0, 1, 0, 0))
}

func TestCrash(t *testing.T) {
	T, U := textBase("x", "1"), textBase("y", "2")
	// Opening a new store is two operations; each transaction is two more, and an Append's bytes are loose up to its Sync.
	two := "text t x 1\ntext u y 2\n"
	for _, c := range []struct{ crash, want string }{
		{"0 0 0", "crash 2"},
		{"0 999999999 999999999", "crash 2"},
		{"1 0 0", "crash 1"},
		{"1 0 999", "crash 1"},
		{"1 999 0", "crash 2"},
		{"1 999999999 0", "crash 2"},
		{"1 20 0", "crash 1"},
		{"2 0 0", "crash 1"},
		{"2 999 999", "crash 1"},
		{"3 0 0", "crash 0"},
		{"3 999 0", "crash 1"},
		{"4 999 999", "crash 0"},
		{"5 0 0", "crash 0"},
		{"6 0 0", "crash 0"},
		{"7 0 0", "crash 0"},
		{"999999999 0 0", "crash 0"},
	} {
		want := []string{c.want, "list 0"}
		switch c.want {
		case "crash 1":
			want = []string{c.want, "list 1", T}
		case "crash 2":
			want = []string{c.want, "list 2", min(T, U), max(T, U)}
		}
		tells(t, two+"crash "+c.crash+"\nlist", want...)
		both(t, two+"crash "+c.crash+"\nlist\nstat\ntext v z 3\ncrash 1 30 0\nlist")
	}
	// The bytes of the batch that are kept: all but one are none.
	batch := 22 + 5 + 120 + 5 + 34 + 4 + 4 + 1 + 4 + 26
	tells(t, fmt.Sprintf("text t x 1\ncrash 1 %d 0\nlist", batch-1), "crash 0", "list 0")
	tells(t, fmt.Sprintf("text t x 1\ncrash 1 %d 0\nlist", batch), "crash 1", "list 1", T)
	// The store that is opened anew has a new device: what was ahead of it is over, but for its own opening.
	tells(t, two+"crash 0 0 0\ncrash 9 0 0\nlist", "crash 2", "crash 2", "list 2", min(T, U), max(T, U))
	tells(t, two+"crash 2 0 0\ntext u y 2\ncrash 1 0 0\ncrash 1 0 0\nlist", "crash 1", "text u "+U, "crash 1", "crash 1", "list 1", T)
	// Only the present store; and nothing of the play but that.
	tells(t, lines("text t x 1", "push t", "key k 00", "label a "+zeros+" a", "guest a hi", "store 2", "text u y 2", "crash 9 0 0", "list", "import", "list", "store 1", "list", "files"),
		append([]string{"crash 0", "list 0", "imported 1", "list 1", zeros + "-a", "store 1", "list 1", T}, endOf(told(t, "text t x 1\npush t\nfiles"), 4)...)...)
	// Compacting: the other file's bytes are loose, then the live one's are cut.
	compacted := "text t x 1\ncompact\n"
	tells(t, compacted+"crash 0 0 0\nlist\nstat", "crash 1", "list 1", T, last(t, compacted+"stat"))
	for k := range 8 {
		both(t, fmt.Sprintf("%scrash %d 0 50\nlist\nstat\ncrash 0 0 0\nlist", compacted, k))
	}
}

// calls is, for each kind of call that changes a store, what stands ahead of it and its line.
func calls() [][2]string {
	guests := lines(abc, "guest a of $b", "guest b $a", "guest c $a", "import")
	return [][2]string{
		{lines(abc, "guest a hi", "guest b $a"), "import"},
		{"text t x 1", "text u y 2"},
		{"text t x 1", "tree u y 2"},
		{guests, "rewrite c"},
		{"text t x 1", "keep r t"},
		{"text t x 1\nkeep r t", "release r"},
		{"text t x 1\nadvance p t", "switch p 0"},
		{"text t x 1\nadvance p t\ntext u y 2", "advance p u"},
		{"text t x 1\nadvance p t\nswitch p 0", "trim p 0"},
		{guests + "\ntext t x 1\ntext u y 2\nkeep r t", "collect 999"},
		{"text t x 1", makes},
		{makes, "make r"},
		{makes + "\nrecipe s y " + recipeOf(floats, `("%r",["out"])`, "", `"file out ho"`, outEnv), "make s"},
		{"store 2\ntext t x 1\ntext u y $t\npush u\nstore 1", "pull u"},
		{"store 2\n" + guests, "carry 1 c\nstore 1"},
		{guests + "\nrewrite c\nkeep r a!", "compact"},
		{guests, asked(api.Ask{Op: api.OpRewrite, Labels: []api.Label{labelOf(baseC)}, Number: 1})},
	}
}

// At every moment of a call the store is the one ahead of it or the one behind it, or one between two of its transactions; the
// later the moment, the nearer to the one behind.
func TestCrashInCalls(t *testing.T) {
	const looks = "\nlist\nsames\nlive\nstat"
	for _, c := range calls() {
		head, call := c[0], c[1]
		before, after := worldBehind(t, head), worldBehind(t, lines(head, call))
		from := before.stores[0].device.Count()
		operations := after.stores[0].device.Count() - from
		if operations == 0 {
			t.Errorf("%q does nothing", call)
		}
		ahead := endOfLooks(t, lines(head+"\nstore 1", "crash 0 0 0"+looks))
		behind := endOfLooks(t, lines(head, call, "crash 0 0 0"+looks))
		seen := map[string]int{}
		for k := range operations + 1 {
			for _, keep := range []string{"0 0", "0 999999", "40 40", "999999 0", "999999 999999"} {
				commands := lines(head, call, fmt.Sprintf("crash %d %s", k, keep)+looks)
				got := endOfLooks(t, commands)
				seen[got]++
				if k == 0 && got != behind {
					t.Errorf("W7: %q and a crash 0 %s:\n%s\nwant\n%s", call, keep, got, behind)
				}
				if k == operations && got != ahead {
					t.Errorf("W7: %q and a crash %d %s:\n%s\nwant\n%s", call, k, keep, got, ahead)
				}
				if k%2 == 1 || keep == "40 40" {
					both(t, commands)
				}
			}
		}
		several := strings.HasPrefix(call, "collect") || strings.HasPrefix(call, "make s")
		if seen[ahead] == 0 || seen[behind] == 0 || len(seen) > 2 != several {
			t.Errorf("W7: %q: %d states, %d of them ahead, %d behind", call, len(seen), seen[ahead], seen[behind])
		}
	}
}

// endOfLooks is what is answered behind the last crash.
func endOfLooks(t *testing.T, commands string) string {
	t.Helper()
	got := told(t, commands)
	for i := len(got) - 1; ; i-- {
		if strings.HasPrefix(got[i], "crash ") {
			return lines(got[i+1:]...)
		}
	}
}
