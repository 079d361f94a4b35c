package modulo

import (
	"bytes"
	"encoding/binary"
	"reflect"
	"slices"
	"strings"
	"testing"

	"graft/api"
	"graft/ark"
	"graft/label"
	"graft/recipe"
)

// P7.1 to P7.3 and P7.8: any recipes; modes and errors all come up.
func TestRecipesMany(t *testing.T) {
	r := sourceOf(2)
	told := map[api.Errno]int{}
	modes := map[int]int{}
	for range 4000 {
		some := someRecipe(r)
		known := someKnown(r, some)
		name := pick(r, "x", "lib-2.0", "a.b", strings.Repeat("n", 207), strings.Repeat("n", 209))
		if r.IntN(20) == 0 {
			name = pick(r, "", ".", "a/")
		}
		if r.IntN(20) == 0 {
			s := spoils()
			s[r.IntN(len(s))].turn(&some)
		}
		holdHash(t, name, some, known)
		holdFill(t, name, some, known)
		_, e, _ := Fill(name, some, known)
		told[e]++
		if e == api.OK {
			modes[recipe.Mode(some)]++
		}
	}
	for _, e := range []api.Errno{api.OK, api.ErrName, api.ErrInput, api.ErrRecipe, api.ErrLong, api.ErrOrder} {
		if told[e] < 10 {
			t.Errorf("%d was answered %d times: %v", e, told[e], told)
		}
	}
	if modes[0] < 100 || modes[1] < 100 || modes[2] < 100 {
		t.Errorf("modes: %v", modes)
	}
}

// P7.8: recipes are exchanged for others, in known and in the inputs; these are in order then.
func TestExchanged(t *testing.T) {
	r := sourceOf(3)
	done := 0
	for range 1000 {
		some := someRecipe(r)
		known := someKnown(r, some)
		want, e, _ := Hash("x", some, known)
		if e != api.OK {
			continue
		}
		other := func(text string) string { // which of two comes first changes with it
			l, _, _ := label.Parse(text)
			for i := range l.Hash {
				l.Hash[i] = text[len(text)-8]*7 + byte(len(text)) + byte(i)
			}
			l.Name = "other-" + l.Name
			out, _ := label.Print(l)
			return out
		}
		var inputs []api.Input
		for _, in := range some.Inputs {
			inputs = append(inputs, api.Input{Recipe: other(in.Recipe), Outputs: in.Outputs})
		}
		slices.SortFunc(inputs, func(a, b api.Input) int { return strings.Compare(a.Recipe, b.Recipe) })
		exchanged := slices.Clone(known)
		for i, k := range known {
			exchanged[i].Recipe = other(k.Recipe)
		}
		if len(inputs) > 1 && inputs[0].Recipe != other(some.Inputs[0].Recipe) {
			done++
		}
		some.Inputs = inputs
		if got, e, at := Hash("x", some, exchanged); got != want || e != api.OK || at != 0 {
			t.Fatalf("P7.8: exchanged: %x, %d, %d, want %x", got, e, at, want)
		}
	}
	if done < 50 {
		t.Errorf("only %d changed their order", done)
	}
}

// shuffled is a group's members in another order, with the mentions' numbers going with it; and for each its former number.
func shuffled(members []api.Member, order []int) []api.Member {
	out := make([]api.Member, len(members))
	for now, then := range order {
		m := members[then]
		m.Hits = slices.Clone(m.Hits)
		for i, h := range m.Hits {
			m.Hits[i].Which = slices.Index(order, h.Which)
		}
		out[now] = m
	}
	return out
}

// P7.9: neither the order of the members nor what stands at the Hits has a part in their labels.
func TestGroupContentAlone(t *testing.T) {
	r := sourceOf(4)
	again, renamed := 0, 0
	for range 1500 {
		members := someGroup(t, r)
		want := holdGroup(t, members)
		order := r.Perm(len(members))
		turned := shuffled(members, order)
		got := takeGroup(t, "another order", turned)
		if got.Sum != want.Sum || !bytes.Equal(got.Text, want.Text) {
			t.Fatalf("P7.9: in the order %v: %x, want %x", order, got.Sum, want.Sum)
		}
		for now, then := range order {
			if got.Labels[now] != want.Labels[then] {
				t.Fatalf("P7.9: in the order %v: %v, want %v", order, got.Labels, want.Labels)
			}
		}
		for i := range turned {
			turned[i].Ark = slices.Clone(turned[i].Ark)
			for _, h := range turned[i].Hits {
				for k := range 32 {
					turned[i].Ark[h.At+k] = byte(r.IntN(256))
				}
			}
		}
		if allArks(turned) {
			again++
			if !same(takeGroup(t, "other bytes", turned), got) {
				t.Fatalf("P7.9: what stands at the mentions has a part in the labels")
			}
		}
		for i, data := range holdRenamed(t, members, want) {
			members[i].Ark = data
		}
		if allArks(members) {
			renamed++
			if !same(takeGroup(t, "renamed", members), want) {
				t.Fatalf("P7.9: the labels of a renamed group are others")
			}
		}
	}
	if again < 100 || renamed < 100 {
		t.Errorf("other bytes in %d groups, %d renamed", again, renamed)
	}
}

func allArks(members []api.Member) bool {
	return !slices.ContainsFunc(members, func(m api.Member) bool {
		_, e, _ := ark.Parse(m.Ark)
		return e != api.OK
	})
}

// content is what a text tells of a member.
type content struct {
	name string
	refs []string
	ark  string
	hits []api.Hit // Which is the place
}

// told reads a group's text: what it tells, with nothing left over.
func told(t *testing.T, text []byte) []content {
	t.Helper()
	number := func() int {
		n := int(binary.LittleEndian.Uint64(text))
		text = text[8:]
		return n
	}
	word := func() string {
		n := number()
		out := string(text[:n])
		text = text[(n+7)/8*8:]
		return out
	}
	if head := word(); head != "graft-group-1" {
		t.Fatalf("P7.10: the head %q", head)
	}
	out := make([]content, number())
	for i := range out {
		out[i].name = word()
		for range number() {
			out[i].refs = append(out[i].refs, word())
		}
		out[i].ark = word()
		for range number() {
			out[i].hits = append(out[i].hits, api.Hit{At: number(), Which: number()})
		}
	}
	if len(text) != 0 {
		t.Fatalf("P7.10: %d bytes are left", len(text))
	}
	return out
}

// P7.10: all of a group can be read off its text.
func TestGroupTextTells(t *testing.T) {
	r := sourceOf(5)
	for range 500 {
		members := someGroup(t, r)
		var want []content
		for _, m := range members {
			c := content{name: m.Name}
			for _, ref := range m.Refs {
				base, _ := label.Base(ref)
				c.refs = append(c.refs, base)
			}
			masked := slices.Clone(m.Ark)
			for _, h := range m.Hits {
				copy(masked[h.At:h.At+32], make([]byte, 32))
				ahead := 0
				for _, other := range members {
					if other.Name < members[h.Which].Name {
						ahead++
					}
				}
				c.hits = append(c.hits, api.Hit{At: h.At, Which: ahead})
			}
			c.ark = string(masked)
			want = append(want, c)
		}
		slices.SortFunc(want, func(a, b content) int { return strings.Compare(a.name, b.name) })
		n := takeGroup(t, "some group", members)
		if got := told(t, n.Text); !reflect.DeepEqual(got, want) {
			t.Fatalf("P7.10: %v, want %v", got, want)
		}
	}
}

// P7.10: whatever is turned of a group, but for what stands at mentions, turns its text.
func TestGroupParts(t *testing.T) {
	digits := strings.Repeat("1", 32)
	want := takeGroup(t, "the ring", ring(t, digits, digits))
	for what, turn := range map[string]func(m []api.Member){
		"a name":               func(m []api.Member) { m[0].Name = "c" },
		"the order of names":   func(m []api.Member) { m[0].Name, m[1].Name = "b", "a" },
		"a byte ahead":         func(m []api.Member) { m[0].Ark[103] = 'B' },
		"a byte behind":        func(m []api.Member) { m[1].Ark[132] = 'B' },
		"a reference less":     func(m []api.Member) { m[1].Refs = nil },
		"another reference":    func(m []api.Member) { m[1].Refs = []api.Label{{Name: "s"}} },
		"another one's":        func(m []api.Member) { m[0].Refs, m[1].Refs = m[1].Refs, nil },
		"a mention less":       func(m []api.Member) { m[0].Hits = nil },
		"a mention elsewhere":  func(m []api.Member) { m[0].Hits = []api.Hit{{At: 103, Which: 1}} },
		"a mention of another": func(m []api.Member) { m[0].Hits = []api.Hit{{At: 104, Which: 0}} },
	} {
		members := ring(t, digits, digits)
		turn(members)
		n := takeGroup(t, what, members)
		if bytes.Equal(n.Text, want.Text) || n.Sum == want.Sum || n.Labels[0] == want.Labels[0] || n.Labels[1] == want.Labels[1] {
			t.Errorf("P7.10: %s has no part in the text", what)
		}
	}
	for _, one := range ring(t, digits, digits) { // alone, mentioning itself
		one.Hits[0].Which = 0
		if n := takeGroup(t, "alone", []api.Member{one}); n.Sum == want.Sum {
			t.Error("P7.10: how many members there are has no part in the text")
		}
	}
}
