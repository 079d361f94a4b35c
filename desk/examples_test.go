package desk

import (
	"slices"
	"strings"
	"testing"

	"graft/api"
)

// 18.5: the chapter's examples.

func TestExample1(t *testing.T) {
	for _, c := range []struct {
		commands string
		e        api.Errno
		line     int
	}{
		{"store 5", api.ErrGiven, 1},
		{"Store 1", api.ErrWord, 1},
		{"", api.OK, 0},
	} {
		if text, e, line := Play(c.commands); text != "" || e != c.e || line != c.line {
			t.Errorf("18.5 1: Play(%q) = %q, %d, %d", c.commands, text, e, line)
		}
	}
}

func TestExample2(t *testing.T) {
	got := told(t, lines("label a "+zeros+" app", "guest a hi", "import", "rewrite a", "lookup a", "show a!"))
	if len(got) != 7 {
		t.Fatalf("18.5 2: %q", got)
	}
	A := baseIn(got[4])
	if !strings.HasSuffix(A, "-app") || A == zeros+"-app" || lines(got...) != lines("label a "+zeros+"-app", "guest a", "imported 1", "renamed 1", zeros+"-app "+A, "lookup "+A, "show "+A+" ca=3 refs=0 size=120 sum="+plainSum(fileArk("hi"))) {
		t.Errorf("18.5 2: %q", got)
	}
}

func TestExample3(t *testing.T) {
	got := told(t, lines("label a "+zeros+" app", "guest a I am $a", "import", "rewrite a", "verify a!", "show a!"))
	A := baseIn(got[4])
	if got[5] != "right" || got[6] != showLine(A, 3, 1, "I am "+A[:32]) {
		t.Errorf("18.5 3: %q", got)
	}
}

func TestExample4(t *testing.T) {
	tellsAll(t, "text t note see $$5 and 100%%\nshow t", "text t "+textBase("note", "see $5 and 100%"), showLine(textBase("note", "see $5 and 100%"), 1, 0, "see $5 and 100%"))
}

func TestExample5(t *testing.T) {
	fails(t, api.ErrGiven, "text t note see $x")
	fails(t, api.ErrGiven, "label a "+zeros+" app\ntext t note see $ab")
}

func TestExample6(t *testing.T) {
	tells(t, "label a "+zeros+" app\nrewrite a", "no 7 "+zeros+"-app")
}

func TestExample7(t *testing.T) {
	head := "label a " + zeros + " app\nguest a hi\nimport\n"
	tells(t, head+"crash 1 0 0\nlist", "imported 1", "crash 0", "list 0")
	tells(t, head+"crash 0 0 0\nlist", "imported 1", "crash 1", "list 1", zeros+"-app")
}

func TestExample8(t *testing.T) {
	tellsAll(t, "key k 00", "key k")
	fails(t, api.ErrGiven, "key k 0")
}

func TestExample9(t *testing.T) {
	tellsAll(t, "stat", `{"arks":0,"bytes":0,"full":0.000049591064453125,"mades":0,"objects":0,"sames":0,"values":0}`)
}

func TestExample10(t *testing.T) {
	if got, e := Batch([]string{"live", "nothing"}, 2); e != api.OK || !slices.Equal(got, []string{"live 0\n", "fault 180 at 1\n"}) {
		t.Errorf("18.5 10: %q, %d", got, e)
	}
}
