package desk

import (
	"slices"
	"strings"
	"testing"

	"graft/api"
)

// 18.1: nicks and their second ones, REST and the labels that it mentions.

func TestNicks(t *testing.T) {
	a, b := hashOf("1"), hashOf("2")
	tellsAll(t, lines("label a "+a+" x", "label "+longNick+" "+b+" y", "label 0 "+a+" z", "guest a 1", "guest "+longNick+" 2", "import", "show a", "show "+longNick, "show 0"),
		"label a "+a+"-x", "label "+longNick+" "+b+"-y", "label 0 "+a+"-z", "guest a", "guest "+longNick, "imported 2",
		"show "+a+"-x ca=0 refs=0 size=120 sum="+plainSum(fileArk("1")), "show "+b+"-y ca=0 refs=0 size=120 sum="+plainSum(fileArk("2")), "no 7")
	// Another label, by each command that gives one.
	tells(t, lines("label a "+a+" x", "label a "+b+" y", "guest a hi", "import", "list"), "list 1", b+"-y")
	tells(t, lines("label a "+a+" x", "text a n hi", "lookup a"), "lookup "+textBase("n", "hi"))
	tells(t, lines("text a n hi", "tree a n hi", "lookup a"), "lookup "+treeBase("n", "hi"))
	tells(t, lines("text a n hi", "label a "+a+" x", "lookup a"), "no 7")
	// What was staged under a nick keeps the label that it had.
	tells(t, lines("label a "+a+" x", "guest a hi", "label a "+b+" y", "import", "list"), "list 1", a+"-x")
}

// renamedTo is the base of the label that a nick's guest was renamed to by commands.
func renamedTo(t *testing.T, commands, nick string) string {
	t.Helper()
	return baseIn(last(t, lines(commands, "lookup "+nick)))
}

func TestSecondNicks(t *testing.T) {
	a, b := hashOf("1"), hashOf("2")
	head := lines("label a "+a+" x", "label b "+b+" y", "guest a 1", "guest b 2", "import")
	A, B := renamedTo(t, head+"\nrewrite a", "a"), renamedTo(t, head+"\nrewrite b", "b")
	if A == B || A == a+"-x" {
		t.Fatalf("P15.5: %s, %s", A, B)
	}
	for _, c := range []struct {
		what     string
		commands string
		want     string
	}{
		{"behind a rename", lines("rewrite a", "lookup a!"), "lookup " + A},
		{"the nick itself stays", lines("rewrite a", "show a"), "show " + a + "-x ca=0 refs=0 size=120 sum=" + plainSum(fileArk("1"))},
		{"of all nicks of the label", lines("label c "+a+" x", "rewrite a", "lookup c!"), "lookup " + A},
		{"the nick is given another label", lines("rewrite a", "label a "+b+" y", "lookup a!"), "lookup " + A},
		{"by a text", lines("rewrite a", "text a n hi", "lookup a!"), "lookup " + A},
		{"a rename without the nick's label", lines("rewrite a", "rewrite b", "lookup a!"), "lookup " + A},
		{"a rename of the label that the nick had", lines("label c "+a+" x", "rewrite a", "label a "+b+" y", "rewrite c", "lookup a!"), "lookup " + A},
		{"a rename of the label that it has now", lines("rewrite a", "label a "+b+" y", "rewrite a", "lookup a!"), "lookup " + B},
		{"the same said by another nick", lines("rewrite a", "label a "+b+" y", "rewrite b", "lookup a!"), "lookup " + B},
		{"a rename of the new label", lines("rewrite a", "rewrite a!", "lookup a!"), "lookup " + A},
		{"an own object", lines("text t n hi", "rewrite t", "lookup t!"), "lookup " + textBase("n", "hi")},
		{"an own object in a guest's closure", lines("text t n hi", "label c "+hashOf("3")+" z", "guest c in $t", "import", "rewrite c", "lookup t!"), "lookup " + textBase("n", "hi")},
		{"a guest in another one's closure", lines("label c "+hashOf("3")+" z", "guest c in $a", "import", "rewrite c", "lookup a!"), "lookup " + A},
		{"in another store", lines("rewrite a", "store 2", "lookup a!"), "no 7"},
		{"by a rename in another store", lines("carry 2 a", "store 2", "rewrite a", "lookup a!"), "lookup " + A},
		{"staged under it", lines("rewrite a", "store 2", "guest a! 7", "import", "list"), A},
		{"an old one over a crash", lines("rewrite a", "crash 999 0 0", "lookup a!"), "no 7"},
	} {
		if got := last(t, head+"\n"+c.commands); got != c.want {
			t.Errorf("18.1: %s: %q, want %q", c.what, got, c.want)
		}
		both(t, head+"\n"+c.commands)
	}
	for _, commands := range []string{
		"lookup a!",
		lines("rewrite a", "lookup b!"),
		lines("rewrite a", "lookup a!!"),
		lines("rewrite a", "rewrite a!", "lookup a!!"),
		lines("rewrite a", "label c "+a+" x", "lookup c!"),
		lines("label c "+hashOf("3")+" z", "rewrite a c", "lookup a!"), // refused
		lines("rewrite a", "label a! "+b+" y"),
		lines("rewrite a", "text a! n hi"),
		lines("rewrite a", "tree a! n hi"),
		lines("rewrite a", "recipe a! n hi"),
	} {
		fails(t, api.ErrGiven, head+"\n"+commands)
	}
}

// A second nick of a nick with 16 letters has 17 bytes.
func TestLongSecondNick(t *testing.T) {
	head := lines("label "+longNick+" "+zeros+" x", "guest "+longNick+" hi", "import", "rewrite "+longNick)
	A := baseIn(last(t, head))
	tells(t, head+"\nlookup "+longNick+"!", "lookup "+A)
	tells(t, head+"\ntext t n $"+longNick+"!f", "text t "+textBase("n", A[:32]+"f", A))
}

func TestExpanded(t *testing.T) {
	a, b := hashOf("2")+"-x", hashOf("1")+"-y"
	w := newWorld()
	w.play(lines("label a "+hashOf("2")+" x", "label b "+hashOf("1")+" y", "label "+longNick+" "+hashOf("3")+" z", "guest a hi", "import", "rewrite a"), new(book))
	A := plainBase(w.nicks.second["a"])
	c := hashOf("3") + "-z"
	for _, x := range []struct {
		rest, want string
		named      []string
	}{
		{"", "", nil},
		{" ", " ", nil},
		{"  hi  ", "  hi  ", nil},
		{"\t\r\x00\xff!#", "\t\r\x00\xff!#", nil},
		{"$$", "$", nil},
		{"%%", "%", nil},
		{"$$$$%%%%", "$$%%", nil},
		{"$$%%$$", "$%$", nil},
		{"see $$5 and 100%%", "see $5 and 100%", nil},
		{"$$a", "$a", nil},
		{"%%a", "%a", nil},
		{"$a", a[:32], []string{a}},
		{"%a", "/graft/store/" + a, []string{a}},
		{" $a ", " " + a[:32] + " ", []string{a}},
		{"$$$a", "$" + a[:32], []string{a}},
		{"$a$$", a[:32] + "$", []string{a}},
		{"$a%%", a[:32] + "%", []string{a}},
		{"$a$b", a[:32] + b[:32], []string{b, a}},
		{"%a/bin:%b", "/graft/store/" + a + "/bin:/graft/store/" + b, []string{b, a}},
		{"$b%a$b$a", b[:32] + "/graft/store/" + a + b[:32] + a[:32], []string{b, a}},
		{"$a!", A[:32], sorted(A)},
		{"%a!x", "/graft/store/" + A + "x", sorted(A)},
		{"$a!!", A[:32] + "!", sorted(A)},
		{"$a!$a", A[:32] + a[:32], sorted(A, a)},
		{"$aX $a- $a_ $a. $aé $a\t", a[:32] + "X " + a[:32] + "- " + a[:32] + "_ " + a[:32] + ". " + a[:32] + "é " + a[:32] + "\t", []string{a}},
		{"$" + longNick, c[:32], []string{c}},
		{"$" + longNick + "f", c[:32] + "f", []string{c}},
		{"%" + longNick + "0!", "/graft/store/" + c + "0!", []string{c}},
		{"$" + longNick + "$a", c[:32] + a[:32], []string{a, c}},
	} {
		text, named, ok := w.expanded(x.rest)
		var bases []string
		for _, l := range named {
			bases = append(bases, plainBase(l))
		}
		if text != x.want || !slices.Equal(bases, x.named) || !ok {
			t.Errorf("18.1: %q is %q with %q, %v; want %q with %q", x.rest, text, bases, ok, x.want, x.named)
		}
	}
	for _, rest := range append(wrongRests, "$"+longNick+"!", "$"+longNick[1:], "%"+strings.Repeat("a", 16), "$aa", "$a0", "$ba", "$b!a", "x$a!y$zz", "$a%", "%a$", "$a$$$") {
		if text, named, ok := w.expanded(rest); text != "" || named != nil || ok {
			t.Errorf("18.1: %q is %q with %v, %v; want a fault", rest, text, named, ok)
		}
	}
}

func sorted(list ...string) []string {
	slices.Sort(list)
	return list
}

// What a rest is: all behind the one blank that ends the word ahead of it.
func TestRest(t *testing.T) {
	for _, c := range []struct{ line, want string }{
		{"text t n", ""},
		{"text t n ", ""},
		{"text t n  ", " "},
		{"text t n hi", "hi"},
		{"text t n  hi ", " hi "},
		{"  text   t   n   hi", "  hi"},
		{"text t n a b  c", "a b  c"},
		{"text t n # hi", "# hi"},
		{"text t n \thi\r", "\thi\r"},
		{"text t n text t n hi", "text t n hi"},
	} {
		tellsAll(t, c.line, "text t "+textBase("n", c.want))
		tells(t, c.line+"\nshow t", "show "+textBase("n", c.want)+" ca=1 refs=0 size="+number(len(fileArk(c.want)))+" sum="+plainSum(fileArk(c.want)))
	}
	tells(t, "tree t n", "tree t "+treeBase("n", ""))
	tells(t, "tree t n  hi ", "tree t "+treeBase("n", " hi "))
	for _, line := range []string{"text", "text t", "text t ", "tree t", "recipe t", "guest", "link ", "guest  "} {
		fails(t, api.ErrGiven, line)
	}
}

// Labels that are mentioned are what is referred to: each once, in order.
func TestMentioned(t *testing.T) {
	head := "text t n 1\ntext u n 2\n"
	T, U := textBase("n", "1"), textBase("n", "2")
	tells(t, head+"text v n %t $u %u $t", "text v "+textBase("n", "/graft/store/"+T+" "+U[:32]+" /graft/store/"+U+" "+T[:32], T, U))
	w := newWorld()
	w.play(head+"label a "+zeros+" x\nguest a $u$t$a$u\nlink a $a", new(book))
	if got := w.staged[0].Refs; len(got) != 3 || plainBase(got[0]) != zeros+"-x" || plainBase(got[1]) >= plainBase(got[2]) {
		t.Errorf("18.3: references %v", got)
	}
	if got := w.staged[1]; len(got.Refs) != 1 || got.Label != got.Refs[0] {
		t.Errorf("18.3: references %v", got.Refs)
	}
}
