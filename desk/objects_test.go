package desk

import (
	"fmt"
	"strings"
	"testing"

	"graft/api"
	"graft/label"
)

// 18.3: what comes onto a store, is renamed there, and looked at.

const (
	hashA = "11111111111111111111111111111111"
	hashB = "22222222222222222222222222222222"
	hashC = "33333333333333333333333333333333"
	baseA = hashA + "-a"
	baseB = hashB + "-b"
	baseC = hashC + "-c"
)

var abc = labels("a", "b", "c")

// longName is a name with as many bytes as a name may have: its label's text has 257.
var longName = strings.Repeat("n", 211)

// roomy is a label l, and a rest of so many bytes that says it again and again.
func roomy(size int) (string, string) {
	return "label l " + zeros + " " + longName, strings.Repeat("%l", size/257) + strings.Repeat(".", size%257)
}

// showLine is what show answers of an object whose tree is one file that is not executable.
func showLine(base string, ca, refs int, data string) string {
	return fmt.Sprintf("show %s ca=%d refs=%d size=%d sum=%s", base, ca, refs, len(fileArk(data)), plainSum(fileArk(data)))
}

func TestStores(t *testing.T) {
	tellsAll(t, "store 1\nstore 4\nstore 3\nstore 2", "store 1", "store 4", "store 3", "store 2")
	// What one store holds no other one does.
	var commands, want []string
	for k := 1; k <= 4; k++ {
		commands = append(commands, fmt.Sprintf("store %d", k), fmt.Sprintf("text t n %d", k), "keep r t", "list", "live")
		T := textBase("n", fmt.Sprint(k))
		want = append(want, fmt.Sprintf("store %d", k), "text t "+T, "kept r", "list 1", T, "live 1", T)
	}
	for k := 1; k <= 4; k++ {
		T := textBase("n", fmt.Sprint(k))
		commands = append(commands, fmt.Sprintf("store %d", k), "list")
		want = append(want, fmt.Sprintf("store %d", k), "list 1", T)
	}
	tellsAll(t, lines(commands...), want...)
	// The first one is present at first.
	tells(t, "text t n hi\nstore 1\nshow t", showLine(textBase("n", "hi"), 1, 0, "hi"))
	tells(t, "text t n hi\nstore 2\nshow t", "no 7")
}

func TestGuests(t *testing.T) {
	tells(t, lines(abc, "guest a hi", "guest b in $a and %a", "link c $c", "import", "list", "show a", "show b", "show c"),
		"guest a", "guest b", "link c", "imported 3", "list 3", baseA, baseB, baseC,
		showLine(baseA, 0, 0, "hi"), showLine(baseB, 0, 1, "in "+hashA+" and /graft/store/"+baseA),
		fmt.Sprintf("show %s ca=0 refs=1 size=%d sum=%s", baseC, len(linkArk(hashC)), plainSum(linkArk(hashC))))
	tells(t, lines(abc, "guest a", "import", "show a"), "imported 1", showLine(baseA, 0, 0, ""))
	tells(t, lines(abc, "link a /b", "import", "show a"), fmt.Sprintf("show %s ca=0 refs=0 size=%d sum=%s", baseA, len(linkArk("/b")), plainSum(linkArk("/b"))))
}

func linkArk(target string) []byte { return arkOf(api.Node{Kind: api.KindLink, Link: target}) }

func TestLinkRefused(t *testing.T) {
	tells(t, lines(abc, "link a", "import"), "no 34", "imported 0")
	tells(t, lines(abc, "link a x\x00", "import"), "no 34", "imported 0")
	tells(t, lines(abc, "link a "+strings.Repeat("x", 1024), "import"), "link a", "imported 1")
	tells(t, lines(abc, "link a "+strings.Repeat("x", 1025), "import"), "no 34", "imported 0")
	tells(t, lines(abc, "guest b hi", "link a", "link c x", "import"), "guest b", "no 34", "link c", "imported 2")
}

func TestGuestRefused(t *testing.T) {
	// An empty file's archive has 112 bytes.
	l, rest := roomy(api.MaxArk - 112)
	tells(t, lines(abc, l, "guest a "+rest, "guest a "+rest+"."), "guest a", "no 37")
	tells(t, lines(abc, l, "guest b hi", "guest a "+rest+".", "import", "list"), "guest b", "no 37", "imported 1", "list 1", baseB)
	tells(t, lines(abc, l, "link a "+rest), "no 34")
}

func TestImport(t *testing.T) {
	tellsAll(t, "import", "imported 0")
	tellsAll(t, "import\nimport\ncrash 0 0 0", "imported 0", "imported 0", "crash 0") // no transaction
	tells(t, lines(abc, "guest a hi", "import", "import", "import"), "imported 1", "imported 0", "imported 0")
	tells(t, lines(abc, "guest a hi", "guest a hi", "import", "list"), "imported 2", "list 1", baseA)
	tells(t, lines(abc, "guest a hi", "import", "guest a hi", "import", "crash 0 0 0"), "imported 1", "crash 1")
	// What is staged is the play's: it goes to the store that is present then.
	tells(t, lines(abc, "guest a hi", "store 2", "guest b ho", "import", "list", "store 1", "list"), "imported 2", "list 2", baseA, baseB, "store 1", "list 0")
	// In their order: one may refer to one behind it.
	tells(t, lines(abc, "guest a $b", "guest b $a", "import"), "imported 2")
	tells(t, lines(abc, "guest a $b", "import", "guest b hi", "import"), "no 150 "+baseA+" "+baseB, "guest b", "imported 1")
}

func TestImportMany(t *testing.T) {
	most := strings.Repeat("guest a x\n", api.MaxObjects)
	if got := last(t, abc+"\n"+most+"import"); got != "imported 4096" {
		t.Errorf("18.3: %q", got)
	}
	tells(t, abc+"\n"+most+"guest a x\nimport\nimport", "no 1", "imported 0")
}

// many is labels with the nicks n0 to n.., and a rest that mentions all of them.
func many(n int) (string, string) {
	var list []string
	rest := ""
	for i := range n {
		list = append(list, fmt.Sprintf("label n%d %s x", i, numbered(i)))
		rest += fmt.Sprintf("$n%d ", i)
	}
	return lines(list...), rest
}

func TestImportRefused(t *testing.T) {
	tells(t, lines(abc, "guest a hi", "guest b $c", "import", "list", "import"), "no 150 "+baseB+" "+baseC, "list 0", "imported 0")
	tells(t, lines(abc, "guest a hi", "import", "guest b ho", "guest a ho", "import", "list"), "no 8 "+baseA, "list 1", baseA)
	tells(t, lines(abc, "guest a hi", "import", "label a "+hashA+" other", "guest a hi", "import"), "no 121 "+hashA+"-other")
	list, rest := many(api.MaxRefs + 1)
	tells(t, lines(abc, list, "guest a "+rest, "import"), "no 120 "+baseA)
	list, rest = many(api.MaxRefs)
	tells(t, lines(abc, list, "guest a "+rest, "import"), "no 150 "+baseA+" "+firstOf(api.MaxRefs)+"-x")
	l, rest := roomy(api.MaxArk - 112)
	tells(t, lines(l, "guest l "+rest, "import", "list", "import"), "no 5", "list 0", "imported 0")
}

// firstOf is the first, in order, of so many numbered digits.
func firstOf(n int) string {
	first := numbered(0)
	for i := range n {
		first = min(first, numbered(i))
	}
	return first
}

func TestText(t *testing.T) {
	T := textBase("note", "hi")
	tellsAll(t, "text t note hi\ntext u note hi\nshow t\nshow u\nlist\ncrash 0 0 0",
		"text t "+T, "text u "+T, showLine(T, 1, 0, "hi"), showLine(T, 1, 0, "hi"), "list 1", T, "crash 1")
	U := textBase("x", "of "+T[:32], T)
	tellsAll(t, "text t note hi\ntext t x of $t\nshow t", "text t "+T, "text t "+U, showLine(U, 1, 1, "of "+T[:32]))
}

// Refused, a nick is as it was: with the label that it had, or without one.
func TestTextRefused(t *testing.T) {
	T := textBase("note", "hi")
	G := textBase("x", hashA, baseA)
	big, rest := roomy(api.MaxArk - 111)
	B := textBase("x", strings.ReplaceAll(rest, "%l", "/graft/store/"+zeros+"-"+longName), zeros+"-"+longName)
	for _, c := range []struct{ line, want string }{
		{"text t .x hi", "no 22"},
		{"text t a/b hi", "no 22"},
		{"text t " + strings.Repeat("x", 212) + " hi", "no 1"},
		{"text t x $a", "no 150 " + G + " " + baseA},
		{"text t x %a", "no 150 " + textBase("x", "/graft/store/"+baseA, baseA) + " " + baseA},
		{"text t x " + rest, "no 37 " + B},
		{"tree t .x hi", "no 22"},
		{"tree t a/b hi", "no 22"},
		{"tree t " + strings.Repeat("x", 212) + " hi", "no 1"},
		{"tree t x " + rest, "no 37"},
		{"recipe t x hi", "no 60"},
	} {
		head := lines(abc, big, "guest a hi", "import")
		tells(t, lines(head, "text t note hi", c.line, "show t"), "text t "+T, c.want, showLine(T, 1, 0, "hi"))
		tells(t, lines(head, c.line, "list"), c.want, "list 1", baseA)
		fails(t, api.ErrGiven, lines(head, c.line, "show t"))
	}
}

// ownTexts is so many texts with the nicks n0 to n.., and a rest that mentions all of them.
func ownTexts(n int) (string, string) {
	var list []string
	rest := ""
	for i := range n {
		list = append(list, fmt.Sprintf("text n%d x %d", i, i))
		rest += fmt.Sprintf("$n%d ", i)
	}
	return lines(list...), rest
}

func TestTextManyRefs(t *testing.T) {
	list, rest := ownTexts(api.MaxRefs)
	if got := last(t, lines(list, "text t y "+rest, "show t")); !strings.Contains(got, " ca=1 refs=256 ") {
		t.Errorf("18.3: %q", got)
	}
	list, rest = ownTexts(api.MaxRefs + 1)
	tells(t, lines(list, "text t y "+rest), "no 1")
}

// A guest that came under the label that a text or a tree makes, or under its hash part.
func TestAddRefusedByShelf(t *testing.T) {
	T, D := textBase("note", "hi"), treeBase("note", "hi")
	for _, c := range []struct{ command, base string }{{"text", T}, {"tree", D}} {
		add := c.command + " t note hi"
		tells(t, lines(add, "store 2", "guest t other", "import", add), "imported 1", "no 8 "+c.base+" "+c.base)
		tells(t, lines("label g "+c.base[:32]+" other", "guest g hi", "import", add), "imported 1", "no 121 "+c.base+" "+c.base[:32]+"-other")
	}
}

// filling is commands behind which the present store's journal has no room for the least transaction. They say the nicks l and f.
func filling() string {
	l, rest := roomy(1 << 19)
	out := []string{"text f f f"}
	for c := 'A'; c <= 'Z'; c++ {
		out = append(out, fmt.Sprintf("keep %c f", c))
	}
	out = append(out, l, "guest l "+rest, "import")
	for i := 18; i >= 6; i-- {
		for _, size := range []int{1 << i, 1 << i / 2} {
			l, rest := roomy(size)
			out = append(out, strings.Replace(l, zeros, numbered(size), 1), "guest l "+rest+".", "import")
		}
	}
	// To take a root with a name of one byte off is the least that can be done.
	for c := 'A'; c <= 'Z'; c++ {
		out = append(out, fmt.Sprintf("release %c", c))
	}
	return lines(out...)
}

func TestFull(t *testing.T) {
	full := filling()
	if got := last(t, full); got != "no 5" {
		t.Fatalf("there is room: %q", got)
	}
	T, D := textBase("note", "hi"), treeBase("note", "hi")
	tells(t, lines(full, "text t note hi", "tree t note hi"), "no 5 "+T, "no 5 "+D)
	tells(t, lines(abc, "guest a hi", "import", full, "rewrite a", "guest b ho", "import", "import", "show a"), "no 5", "guest b", "no 5", "imported 0", showLine(baseA, 0, 0, "hi"))
	tells(t, lines("text t note hi", "keep r t", "advance p t", full, "keep s t", "release r", "switch p 0", "switch p 1", "trim p 0", "advance p t", "advance q t", "collect 0"),
		"no 5", "no 5", "no 5", "p at 1", "p less 0", "p at 1", "no 5", "swept 0 freed 0")
	tells(t, lines("text t note hi", "text u note ho", "advance p t", "advance p u", full, "advance p t", "trim p 0", "trim p 9"), "no 5", "no 5", "p less 0")
	tells(t, lines("store 2", "text t note hi", abc, "guest a hi", "import", "store 1", full, "store 2", "push t", "carry 1 a", "store 1", "pull t"),
		"pushed 3", "no 5", "store 1", "no 5")
	tells(t, lines(makes, full, "make r", makesAs("s", "y")), "no 5", "no 5 "+baseIn(last(t, makesAs("s", "y"))))
	// Room comes of compacting alone.
	tells(t, lines(abc, "guest a hi", "import", full, "rewrite a", "compact", "rewrite a"), "no 5", "compact", "renamed 1", baseA+" "+memberBase(t, lines(abc, "guest a hi", "import"), "a"))
}

func TestTree(t *testing.T) {
	D := treeBase("x", "hi")
	tellsAll(t, "tree d x hi\ntree e x hi\nshow d\nlist", "tree d "+D, "tree e "+D,
		fmt.Sprintf("show %s ca=2 refs=0 size=%d sum=%s", D, len(treeArk("hi")), plainSum(treeArk("hi"))), "list 1", D)
	// What it mentions it does not refer to.
	tells(t, lines(abc, "tree d x $a", "show d"), "tree d "+treeBase("x", hashA), fmt.Sprintf("show %s ca=2 refs=0 size=%d sum=%s", treeBase("x", hashA), len(treeArk(hashA)), plainSum(treeArk(hashA))))
}

// memberBase is what a guest that leads to no other one is called when it is renamed behind commands.
func memberBase(t *testing.T, commands, nick string) string {
	t.Helper()
	line := last(t, lines(commands, "rewrite "+nick))
	l, e, _ := label.ParseBase(baseIn(line))
	if e != api.OK {
		t.Fatalf("18.3: %q", line)
	}
	return plainBase(l)
}

func TestRewrite(t *testing.T) {
	one := lines(abc, "guest a hi", "import")
	A := memberBase(t, one, "a")
	tells(t, lines(one, "rewrite a", "rewrite a", "rewrite a!", "rewrite a a a! a", "lookup a", "lookup a!", "verify a", "verify a!", "show a!", "list", "sames"),
		"renamed 1", baseA+" "+A, "renamed 1", baseA+" "+A, "renamed 1", A+" "+A, "renamed 2", min(baseA, A)+" "+A, max(baseA, A)+" "+A,
		"lookup "+A, "lookup "+A, "right", "right", showLine(A, 3, 0, "hi"), "list 2", min(baseA, A), max(baseA, A), "sames 1", baseA+" "+A)
	// A ring, and what it leads to.
	ring := lines(abc, "guest a see $b", "guest b $a and $c", "guest c I am $c", "import", "rewrite a")
	got := told(t, lines(ring, "verify a!", "verify b!", "verify c!", "sames"))
	if tail := got[len(got)-11:]; tail[0] != "renamed 3" || tail[4] != "right" || tail[5] != "right" || tail[6] != "right" || tail[7] != "sames 3" || lines(tail[1:4]...) != lines(tail[8:]...) {
		t.Errorf("18.3: %q", tail)
	}
}

// Each refusal of Rewrite: with no label, with At, with At and Other.
func TestRewriteRefused(t *testing.T) {
	tells(t, lines(abc, "rewrite a"), "no 7 "+baseA)
	tells(t, lines(abc, "guest a hi", "import", "rewrite a c b", "sames"), "no 7 "+baseC, "sames 0")
	tells(t, lines(abc, "guest a "+hashB, "guest b hi", "guest c $a $b", "import", "rewrite c"), "no 151 "+baseA+" "+baseB)
	tells(t, lines(abc, "guest a in $b", "guest b "+hashB, "import", "rewrite a"), "no 151 "+baseB+" "+baseB)
}

func TestRewriteCross(t *testing.T) {
	// 33 times 2: two mentions of b that overlap.
	tells(t, lines(abc, "guest a 2$b", "guest b hi", "import", "rewrite a"), "imported 2", "no 153 "+baseA)
}

func TestRewriteTwins(t *testing.T) {
	twins := lines("label a "+hashA+" x", "label b "+hashB+" x", "guest a $b", "guest b $a", "import")
	tells(t, lines(twins, "rewrite b"), "no 72 "+hashA+"-x "+hashB+"-x")
}

func TestRewriteGreatGroup(t *testing.T) {
	for _, n := range []int{api.MaxGroup, api.MaxGroup + 1} {
		var list []string
		for i := range n {
			list = append(list, fmt.Sprintf("label n%d %s x%d", i, numbered(i), i))
		}
		for i := range n {
			list = append(list, fmt.Sprintf("guest n%d $n%d", i, (i+1)%n))
		}
		got := told(t, lines(lines(list...), "import", "rewrite n0"))
		if n == api.MaxGroup && got[2*n+1] != "renamed 64" {
			t.Errorf("18.3: %q", got[2*n+1])
		}
		if n > api.MaxGroup && (len(got) != 2*n+2 || !strings.HasPrefix(got[2*n+1], "no 36 "+firstOf(n)+"-x")) {
			t.Errorf("18.3: %q", got[2*n+1:])
		}
	}
}

// A chain of texts, each of which mentions the one ahead of it: more than are renamed at once. Where an outcome has no At, none is told.
func TestRewriteGreatClosure(t *testing.T) {
	chain := "text a n x\n" + strings.Repeat("text a n $a\n", api.MaxClosure-1)
	got := told(t, chain+"rewrite a\nshow a")
	if got[api.MaxClosure] != "renamed 2048" {
		t.Errorf("18.3: %q", got[api.MaxClosure])
	}
	tells(t, chain+"text a n $a\nrewrite a", "no 36")
}

func TestRewriteInName(t *testing.T) {
	dir := arkOf(api.Node{Kind: api.KindDir, List: []api.Entry{{Name: hashB, Node: api.Node{Kind: api.KindFile}}}})
	o := api.Object{Label: labelOf(baseA), Refs: []api.Label{labelOf(baseB)}, Ark: dir}
	tells(t, lines(abc, "guest b hi", "import", importing(o), "rewrite a"), last(t, lines(abc, "guest b hi", "import", importing(o))), "no 152 "+baseA)
}

func TestRewriteClash(t *testing.T) {
	one := lines(abc, "guest a hi", "import")
	A := memberBase(t, one, "a")
	// A guest that came under the very label that a's content makes; and one with its hash part.
	tells(t, lines(one, "rewrite a", "store 2", "guest a! other", "guest a hi", "import", "rewrite a"), "imported 2", "no 121 "+baseA+" "+A)
	tells(t, lines(one, "label g "+A[:32]+" other", "guest g hi", "import", "rewrite a"), "imported 1", "no 121 "+baseA+" "+A[:32]+"-other")
}

func TestRewriteStray(t *testing.T) {
	one := lines(abc, "guest a hi", "import")
	A := memberBase(t, one, "a")
	tells(t, lines(one, "text t n "+A[:32], "guest b $a $t", "import", "rewrite b"), "imported 1", "no 154 "+textBase("n", A[:32]))
}

func TestRewriteTable(t *testing.T) {
	one := lines(abc, "guest a hi", "import")
	A := memberBase(t, one, "a")
	tells(t, lines(one, "rewrite a", "keep r a!", "collect 1", "guest a other", "import", "rewrite a", "lookup a!"),
		"kept r", "swept 1 freed 0", baseA, "guest a", "imported 1", "no 155 "+baseA+" "+A, "lookup "+A)
}

// A refusal is told with the labels that it is about; of one that is not printable, and of none.
func TestRefusals(t *testing.T) {
	a, odd := labelOf(baseA), api.Label{Hash: labelOf(baseA).Hash}
	for _, c := range []struct {
		o    api.Outcome
		want string
	}{
		{api.Outcome{Err: 7}, "no 7\n"},
		{api.Outcome{Err: 36, Place: 5}, "no 36\n"},
		{api.Outcome{Err: 7, At: a, Place: 5}, "no 7 " + baseA + "\n"},
		{api.Outcome{Err: 150, At: a, Other: labelOf(baseB)}, "no 150 " + baseA + " " + baseB + "\n"},
		{api.Outcome{Err: 120, At: odd}, "no 120 ?\n"},
		{api.Outcome{Err: 120, At: api.Label{Name: ".x"}}, "no 120 ?\n"},
		{api.Outcome{Err: 150, At: a, Other: odd}, "no 150 " + baseA + " ?\n"},
		{api.Outcome{Err: 150, At: odd, Other: a}, "no 150 ? " + baseA + "\n"},
		{api.Outcome{Err: 150, Other: a}, "no 150\n"},
	} {
		w := newWorld()
		w.refuseFor(c.o)
		if got := w.out.String(); got != c.want {
			t.Errorf("P18.1: %v is told as %q, want %q", c.o, got, c.want)
		}
	}
}

func TestLooks(t *testing.T) {
	one := lines(abc, "guest a hi", "import")
	tells(t, lines(one, "lookup a", "verify a", "show a", "sames"), "no 7", "right", showLine(baseA, 0, 0, "hi"), "sames 0")
	tells(t, lines(one, "lookup b", "verify b", "show b", "list"), "no 7", "no 7", "no 7", "list 1", baseA)
	T := textBase("n", "hi")
	tells(t, "text t n hi\nlookup t\nverify t", "lookup "+T, "right")
	tellsAll(t, "list\nsames\nlive", "list 0", "sames 0", "live 0")
	// A label that is not on the present store is no fault, whatever is asked.
	for _, line := range []string{"rewrite a", "lookup a", "verify a", "show a", "keep r a", "advance p a", "make a", "push a", "pull a", "carry 2 a"} {
		if got := last(t, lines(abc, line)); !strings.HasPrefix(got, "no ") {
			t.Errorf("18.3: %s: %q", line, got)
		}
	}
}
