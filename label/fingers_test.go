package label

import (
	"math/rand/v2"
	"reflect"
	"regexp"
	"slices"
	"strconv"
	"strings"
	"testing"

	"graft/api"
	"graft/digest"
)

const (
	noSum     = "0000000000000000000000000000000000000000000000000000000000000000"
	someText  = "text:sha256:" + noSum + ":/graft/store:x"
	nameForm  = `[A-Za-z0-9+_?=-][A-Za-z0-9+_?=.-]{0,210}`
	labelForm = `:/graft/store/[0-9abcdfghijklmnpqrsvwxyz]{32}-` + nameForm
)

var (
	refA = api.Label{Name: "a"}
	refB = api.Label{Hash: api.Hash{19: 1}, Name: "b"}
	sumS = digest.Of([]byte("s"))
)

// textOf is a label's text.
func textOf(l api.Label) string { return "/graft/store/" + digest.Base32(l.Hash[:]) + "-" + l.Name }

var (
	fingerForm = regexp.MustCompile(`^(text|source|output|member)((?:` + labelForm + `)*)(:[^:]*)?:sha256:([0-9a-f]{64}):/graft/store:` + nameForm + `$`)
	outForm    = regexp.MustCompile(`^:` + nameForm + `$`)
	indexForm  = regexp.MustCompile(`^:(0|[1-9]|[1-5][0-9]|6[0-3])$`)
)

// isFinger tells by the words of P2.8 and P2.9 whether a text is a finger's.
func isFinger(text string) bool {
	m := fingerForm.FindStringSubmatch(text)
	if m == nil {
		return false
	}
	kind, refs, last := m[1], m[2], m[3]
	rising := true
	var list []string
	if refs != "" {
		list = strings.Split(refs[1:], ":")
		for i := range list[1:] {
			rising = rising && list[i] < list[i+1]
		}
	}
	switch kind {
	case "text":
		return last == "" && rising && len(list) <= 256
	case "source":
		return (last == "" || last == ":self") && rising && len(list) <= 256
	case "output":
		return refs == "" && outForm.MatchString(last)
	}
	return refs == "" && indexForm.MatchString(last)
}

// holdHear holds Hear of a text against the plain words.
func holdHear(t *testing.T, text string) {
	t.Helper()
	f, e := Hear(text)
	if !isFinger(text) {
		if e != api.ErrFinger || !reflect.DeepEqual(f, api.Finger{}) {
			t.Fatalf("Hear(%.200q) = %v, %d", text, f, e)
		}
		return
	}
	if e != api.OK {
		t.Fatalf("Hear(%.200q): %d", text, e)
	}
	if said, e := Say(f); said != text || e != api.OK {
		t.Fatalf("Say of Hear(%.200q) = %.200q, %d", text, said, e)
	}
	if !slices.Equal(f.Refs, Sort(f.Refs)) {
		t.Fatalf("Hear(%.200q) has references out of order", text)
	}
}

// The kinds are api's numbers.
func TestKinds(t *testing.T) {
	if kindText != api.FingerText || kindSource != api.FingerSource || kindOutput != api.FingerOutput || kindMember != api.FingerMember {
		t.Error("the kinds are counted in another way than api's")
	}
}

// sayings are fingers and their texts: P2.8, P2.9, examples 6 and 10.
func sayings() []struct {
	f    api.Finger
	text string
} {
	a, b := ":"+textOf(refA), ":"+textOf(refB)
	tail := ":sha256:" + digest.Hex(sumS[:]) + ":/graft/store:n-1.0"
	with := func(f api.Finger) api.Finger { f.Inner, f.Name = sumS, "n-1.0"; return f }
	n211 := strings.Repeat("n", 211)
	return []struct {
		f    api.Finger
		text string
	}{
		{api.Finger{Kind: 4, Index: 7, Name: "x"}, "member:7:sha256:" + noSum + ":/graft/store:x"},
		{api.Finger{Kind: 1, Name: "x"}, someText},
		{with(api.Finger{Kind: 1}), "text" + tail},
		{with(api.Finger{Kind: 1, Refs: []api.Label{}}), "text" + tail},
		{with(api.Finger{Kind: 1, Refs: []api.Label{refA}}), "text" + a + tail},
		{with(api.Finger{Kind: 1, Refs: []api.Label{refB, refA, refB, refB}}), "text" + a + b + tail},
		{with(api.Finger{Kind: 2}), "source" + tail},
		{with(api.Finger{Kind: 2, Self: true}), "source:self" + tail},
		{with(api.Finger{Kind: 2, Refs: []api.Label{refB, refA, refB}}), "source" + a + b + tail},
		{with(api.Finger{Kind: 2, Refs: []api.Label{refB, refA}, Self: true}), "source" + a + b + ":self" + tail},
		{with(api.Finger{Kind: 3, Out: "out"}), "output:out" + tail},
		{with(api.Finger{Kind: 3, Out: "self"}), "output:self" + tail},
		{with(api.Finger{Kind: 3, Out: "sha256"}), "output:sha256" + tail},
		{with(api.Finger{Kind: 3, Out: n211}), "output:" + n211 + tail},
		{with(api.Finger{Kind: 4}), "member:0" + tail},
		{with(api.Finger{Kind: 4, Index: 63}), "member:63" + tail},
		{api.Finger{Kind: 2, Name: n211}, "source:sha256:" + noSum + ":/graft/store:" + n211},
	}
}

// P2.8, P2.9, P2.10 and P2.11 of fingers that may be said.
func TestSay(t *testing.T) {
	for _, c := range sayings() {
		if text, e := Say(c.f); text != c.text || e != api.OK {
			t.Errorf("Say(%v) = %q, %d, want %q", c.f, text, e, c.text)
		}
		want := c.f
		want.Refs = Sort(c.f.Refs)
		got, e := Hear(c.text)
		if e != api.OK || !slices.Equal(got.Refs, want.Refs) {
			t.Errorf("Hear(%q) = %v, %d", c.text, got, e)
		}
		got.Refs, want.Refs = nil, nil
		if !reflect.DeepEqual(got, want) {
			t.Errorf("Hear(%q) = %v, want %v", c.text, got, want)
		}
		l, e := Call(c.f)
		if e != api.OK || l.Name != c.f.Name || l.Hash != digest.Fold(digest.Of([]byte(c.text))) {
			t.Errorf("Call(%v) = %v, %d", c.f, l, e)
		}
	}
}

// refuse holds what Say and Call answer to a finger that may not be said.
func refuse(t *testing.T, f api.Finger, want api.Errno) {
	t.Helper()
	if text, e := Say(f); text != "" || e != want {
		t.Errorf("Say(%+v) = %.40q, %d, want %d", f, text, e, want)
	}
	if l, e := Call(f); l != (api.Label{}) || e != want {
		t.Errorf("Call(%+v) = %v, %d, want %d", f, l, e, want)
	}
}

// P2.9: each error, and which goes ahead of which; example 7.
func TestSayRefuses(t *testing.T) {
	long := strings.Repeat("n", 212)
	bad := []api.Label{{Name: "a b"}}
	for _, c := range []struct {
		f    api.Finger
		want api.Errno
	}{
		{api.Finger{Kind: 3, Name: "x"}, api.ErrName},
		{api.Finger{Kind: 1, Out: "out", Name: "x"}, api.ErrUnused},
		{api.Finger{Kind: 5, Name: "x"}, api.ErrKind},
		{api.Finger{}, api.ErrKind},
		{api.Finger{Kind: -1, Name: "x"}, api.ErrKind},
		{api.Finger{Kind: 1 << 62, Name: "x"}, api.ErrKind},
		{api.Finger{Kind: -1 << 63, Name: "x"}, api.ErrKind},
		{api.Finger{Kind: 5, Refs: bad, Self: true, Out: "o", Index: 1}, api.ErrKind},
		{api.Finger{Kind: 1, Self: true}, api.ErrUnused},
		{api.Finger{Kind: 1, Refs: bad, Out: " ", Name: long}, api.ErrUnused},
		{api.Finger{Kind: 1, Index: 1, Name: "x"}, api.ErrUnused},
		{api.Finger{Kind: 1, Index: -1, Name: "x"}, api.ErrUnused},
		{api.Finger{Kind: 2, Out: "out", Name: "x"}, api.ErrUnused},
		{api.Finger{Kind: 2, Index: 64, Name: "x"}, api.ErrUnused},
		{api.Finger{Kind: 3, Out: "out", Refs: []api.Label{refA}, Name: "x"}, api.ErrUnused},
		{api.Finger{Kind: 3, Out: "out", Refs: make([]api.Label, 257), Name: "x"}, api.ErrUnused},
		{api.Finger{Kind: 3, Out: "out", Self: true, Name: "x"}, api.ErrUnused},
		{api.Finger{Kind: 3, Out: "out", Index: 1, Name: "x"}, api.ErrUnused},
		{api.Finger{Kind: 4, Refs: []api.Label{refA}, Name: "x"}, api.ErrUnused},
		{api.Finger{Kind: 4, Self: true, Name: "x"}, api.ErrUnused},
		{api.Finger{Kind: 4, Out: "out", Name: "x"}, api.ErrUnused},
		{api.Finger{Kind: 1}, api.ErrName},
		{api.Finger{Kind: 1, Name: long}, api.ErrLong},
		{api.Finger{Kind: 1, Name: ".x"}, api.ErrName},
		{api.Finger{Kind: 3, Out: long}, api.ErrName},
		{api.Finger{Kind: 3, Name: long}, api.ErrLong},
		{api.Finger{Kind: 3, Out: long, Name: "x"}, api.ErrLong},
		{api.Finger{Kind: 3, Out: ".o", Name: "x"}, api.ErrName},
		{api.Finger{Kind: 3, Out: "a:b", Name: "x"}, api.ErrName},
		{api.Finger{Kind: 4, Index: 64, Name: "x"}, api.ErrArg},
		{api.Finger{Kind: 4, Index: -1, Name: "x"}, api.ErrArg},
		{api.Finger{Kind: 4, Index: 1 << 62, Name: "x"}, api.ErrArg},
		{api.Finger{Kind: 4, Index: 64}, api.ErrName},
		{api.Finger{Kind: 4, Index: -1, Name: long}, api.ErrLong},
		{api.Finger{Kind: 2, Refs: make([]api.Label, 257), Name: "x"}, api.ErrLong},
		{api.Finger{Kind: 2, Refs: make([]api.Label, 256), Name: "x"}, api.ErrName},
		{api.Finger{Kind: 2, Refs: make([]api.Label, 257)}, api.ErrName},
		{api.Finger{Kind: 1, Refs: bad, Name: long}, api.ErrLong},
		{api.Finger{Kind: 1, Refs: bad, Name: "x"}, api.ErrName},
		{api.Finger{Kind: 1, Refs: []api.Label{refA, {Name: long}, {Name: ""}}, Name: "x"}, api.ErrLong},
		{api.Finger{Kind: 2, Refs: []api.Label{refB, {Name: ""}, {Name: long}}, Name: "x"}, api.ErrName},
	} {
		refuse(t, c.f, c.want)
	}
}

// P2.9: 256 and 257 references, counted as they are handed in; the first that is not printable is so too.
func TestSayMany(t *testing.T) {
	r := rand.New(rand.NewPCG(2, 9))
	var refs []api.Label
	for range 256 {
		refs = append(refs, someLabel(r))
	}
	for _, kind := range []int{1, 2} {
		f := api.Finger{Kind: kind, Refs: refs, Name: "x"}
		want := map[int]string{1: "text", 2: "source"}[kind]
		for _, l := range Sort(refs) {
			want += ":" + textOf(l)
		}
		want += ":sha256:" + noSum + ":/graft/store:x"
		if text, e := Say(f); e != api.OK || text != want {
			t.Errorf("256 references: %d", e)
		}
		if got, e := Hear(want); e != api.OK || !slices.Equal(got.Refs, Sort(refs)) {
			t.Errorf("256 references: Hear: %d", e)
		}
		f.Refs = append(slices.Clone(refs), refs[0])
		refuse(t, f, api.ErrLong)
		f.Refs = slices.Repeat([]api.Label{refA}, 256)
		if text, e := Say(f); e != api.OK || strings.Count(text, ":/graft/store/") != 1 {
			t.Errorf("one reference 256 times: %.100q, %d", text, e)
		}
		f.Refs = append(f.Refs, refA)
		refuse(t, f, api.ErrLong)
	}
	// Behind one another by Sort, and the other way about as they are handed in.
	f := api.Finger{Kind: 1, Name: "x", Refs: []api.Label{{Hash: api.Hash{19: 9}, Name: " "}, {Name: strings.Repeat("n", 212)}}}
	refuse(t, f, api.ErrName)
	slices.Reverse(f.Refs)
	refuse(t, f, api.ErrLong)
}

// P2.9: each reference may be as long as a label is; P2.10 hears it.
func TestSayLongest(t *testing.T) {
	f := api.Finger{Kind: 2, Self: true, Name: strings.Repeat("x", 211)}
	for i := range 256 {
		f.Refs = append(f.Refs, api.Label{Hash: api.Hash{19: byte(i)}, Name: strings.Repeat("r", 211)})
	}
	text, e := Say(f)
	if want := 6 + 256*258 + 5 + 8 + 64 + 14 + 211; e != api.OK || len(text) != want {
		t.Fatalf("the longest finger has %d bytes, want %d: %d", len(text), want, e)
	}
	if got, e := Hear(text); e != api.OK || !reflect.DeepEqual(got, f) {
		t.Errorf("the longest finger is not heard: %d", e)
	}
	more := ":" + textOf(api.Label{Hash: api.Hash{18: 255, 19: 255}, Name: "r"}) + ":self"
	if _, e := Hear(strings.Replace(text, ":self", more, 1)); e != api.ErrFinger {
		t.Errorf("257 references are heard: %d", e)
	}
}

// P2.10, example 8.
func TestHearRefuses(t *testing.T) {
	a, b := ":"+textOf(refA), ":"+textOf(refB)
	tail := ":sha256:" + noSum + ":/graft/store:x"
	for _, text := range []string{
		"", "text", ":", "x", tail, tail[1:], ":" + tail, noSum,
		"text:sha256:" + noSum[1:] + ":/graft/store:x",
		"text:sha256:0" + noSum + ":/graft/store:x",
		"text:sha256:" + noSum[1:] + "A:/graft/store:x",
		"text:sha1:" + noSum + ":/graft/store:x",
		"text:sha256:" + noSum + ":/graft/store:",
		"text:sha256:" + noSum + ":/graft/store:.x",
		"text:sha256:" + noSum + ":/graft/store:x y",
		"text:sha256:" + noSum + ":/graft/store/x",
		"text:sha256:" + noSum + ":/graft/store:" + strings.Repeat("x", 212),
		"text:sha256:" + noSum + "/graft/store:x",
		"text:" + tail, "text:self" + tail, "text" + a + ":self" + tail, "text:out" + tail,
		"text" + b + a + tail, "text" + a + a + tail, "text" + a + ":" + tail, "text:" + a + tail,
		"text" + a[:len(a)-1] + tail, "text" + a + "/bin" + tail, "text:" + a[len(":/graft/store/"):] + tail,
		"source" + b + a + tail, "source" + a + ":self:self" + tail, "source:self" + a + tail, "source:" + tail,
		"source" + a + ":self:" + tail, "source:Self" + tail, "Text" + tail, "texts" + tail, " text" + tail, "TEXT" + tail,
		"output" + tail, "output:" + tail, "output:.o" + tail, "output:o o" + tail, "output:a:b" + tail, "output" + a + tail,
		"output:" + strings.Repeat("o", 212) + tail,
		"member" + tail, "member:" + tail, "member:07" + tail, "member:00" + tail, "member:64" + tail, "member:-1" + tail,
		"member:-0" + tail, "member:+7" + tail, "member: 7" + tail, "member:0x7" + tail, "member:7:self" + tail,
		"member:1_0" + tail, "member:" + strings.Repeat("9", 30) + tail, "member:18446744073709551616" + tail,
		"kind" + tail, someText + " ", someText + ":", " " + someText, someText + "\n", someText + someText,
	} {
		if f, e := Hear(text); e != api.ErrFinger || !reflect.DeepEqual(f, api.Finger{}) {
			t.Errorf("Hear(%q) = %v, %d", text, f, e)
		}
		holdHear(t, text)
	}
}

// P2.10: texts of fingers cut at each place, with other bytes at each place, and with bytes left out.
func TestHearChanged(t *testing.T) {
	for _, c := range sayings() {
		holdHear(t, c.text)
		if len(c.text) > 300 {
			continue
		}
		for at := range len(c.text) {
			holdHear(t, c.text[:at])
			holdHear(t, c.text[at:])
			holdHear(t, c.text[:at]+c.text[at+1:])
			for _, b := range []string{":", "/", "0", "a", "A", "-", ".", "e", "\x00", "\xff", "self", ":self", " "} {
				holdHear(t, c.text[:at]+b+c.text[at:])
				holdHear(t, c.text[:at]+b+c.text[at+1:])
			}
		}
	}
}

// P2.10: each number of a member, with Index -1, 0, 63 and 64 among them.
func TestHearIndex(t *testing.T) {
	for i := -3; i < 130; i++ {
		text := "member:" + strconv.Itoa(i) + ":sha256:" + noSum + ":/graft/store:x"
		f, e := Hear(text)
		if i < 0 || i > 63 {
			if e != api.ErrFinger {
				t.Errorf("Hear(%q): %d", text, e)
			}
			refuse(t, api.Finger{Kind: 4, Index: i, Name: "x"}, api.ErrArg)
		} else if e != api.OK || f.Kind != 4 || f.Index != i || f.Name != "x" {
			t.Errorf("Hear(%q) = %v, %d", text, f, e)
		}
	}
}

// P2.10: no two fingers that differ in more than the order and number of their Refs say the same.
func TestSayOnce(t *testing.T) {
	said := map[string]api.Finger{}
	lists := [][]api.Label{nil, {refA}, {refB}, {refA, refB}, {refB, refA, refA}}
	words := []string{"", "out", "self", "text", "0", "1", "sha256", "x-out"}
	for kind := 1; kind <= 4; kind++ {
		for _, refs := range lists {
			for _, out := range words {
				for index := range 3 {
					for _, name := range words {
						for _, self := range []bool{false, true} {
							f := api.Finger{Kind: kind, Refs: refs, Self: self, Out: out, Index: index, Name: name}
							text, e := Say(f)
							if e != api.OK {
								continue
							}
							f.Refs = Sort(f.Refs)
							if other, ok := said[text]; ok && !reflect.DeepEqual(f, other) {
								t.Fatalf("%v and %v say %q", f, other, text)
							}
							said[text] = f
						}
					}
				}
			}
		}
	}
	if len(said) < 100 {
		t.Errorf("only %d texts", len(said))
	}
}

// What is handed in stays as it was; the references that Hear hands out are new memory.
func TestFingerMemory(t *testing.T) {
	room := []api.Label{refB, refA, refB, refB, refB}
	f := api.Finger{Kind: 1, Refs: room[:2], Name: "x"}
	text, _ := Say(f)
	Call(f)
	Text("x", nil, room[:2])
	Source("x", api.Sum{}, room[:2], true)
	if !slices.Equal(room, []api.Label{refB, refA, refB, refB, refB}) {
		t.Errorf("references were changed to %v", room)
	}
	first, _ := Hear(text)
	second, _ := Hear(text)
	clear(first.Refs[:cap(first.Refs)])
	third, _ := Hear(text)
	for _, f := range []api.Finger{second, third} {
		if !slices.Equal(f.Refs, []api.Label{refA, refB}) {
			t.Errorf("what is written into an answer shows in another: %v", f.Refs)
		}
	}
	if len(first.Refs) != 2 || len(second.Refs) != 2 {
		t.Errorf("Hear(%q) has %d references", text, len(first.Refs))
	}
}
