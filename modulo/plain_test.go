package modulo

import (
	"crypto/sha256"
	"encoding/binary"
	"encoding/hex"
	"fmt"
	"maps"
	"math/rand/v2"
	"reflect"
	"slices"
	"strings"
	"testing"

	"graft/api"
	"graft/ark"
	"graft/digest"
	"graft/label"
	"graft/recipe"
)

const (
	one   = `Derive([("out","","","")],[],[],"any","builtin:make",[],[("out","")])`
	two   = `Derive([("doc","","",""),("out","","","")],[],[],"any","builtin:make",[],[("doc",""),("out","")])`
	store = "/graft/store/00000000000000000000000000000000-"
	y     = store + "y.recipe"
	z     = store + "z.recipe"
)

var zeros = strings.Repeat("0", 64)

// read is the recipe of a text.
func read(t testing.TB, text string) api.Recipe {
	t.Helper()
	r, e, at := recipe.Read(text)
	if e != api.OK {
		t.Fatalf("%s: %d, %d", short(text), e, at)
	}
	return r
}

// asking is a recipe with an input more.
func asking(r api.Recipe, of string, outputs ...string) api.Recipe {
	r.Inputs = append(slices.Clone(r.Inputs), api.Input{Recipe: of, Outputs: outputs})
	return r
}

// fixed is a recipe whose output's sum is known.
func fixed(t testing.TB, algo, sum string) api.Recipe {
	t.Helper()
	return read(t, strings.Replace(one, `"out","","",""`, `"out","","`+algo+`","`+sum+`"`, 1))
}

// floating is a recipe whose outputs are called when they have been made.
func floating(t testing.TB) api.Recipe {
	t.Helper()
	return read(t, strings.ReplaceAll(two, `"","",""`, `"","r:sha256",""`))
}

// short is as much of a text as may be told.
func short(text string) string {
	if len(text) > 300 {
		text = text[:200] + " .. " + text[len(text)-90:]
	}
	return fmt.Sprintf("%q", text)
}

// same says whether two values are equal; nil and empty lists are.
func same(a, b any) bool { return reflect.DeepEqual(bare(a), bare(b)) }

// bare is a value with nil for each empty list.
func bare(v any) any {
	switch x := v.(type) {
	case api.Recipe:
		r := x
		r.Outputs, r.Sources, r.Args, r.Env = nilled(x.Outputs), nilled(x.Sources), nilled(x.Args), nilled(x.Env)
		r.Inputs = nil
		for _, in := range x.Inputs {
			r.Inputs = append(r.Inputs, api.Input{Recipe: in.Recipe, Outputs: nilled(in.Outputs)})
		}
		return r
	case api.Naming:
		return api.Naming{Sum: x.Sum, Text: nilled(x.Text), Labels: nilled(x.Labels)}
	}
	return v
}

func nilled[T any](list []T) []T { return append([]T(nil), list...) }

// plainText is what is summed of a recipe, by the chapter's words.
func plainText(name string, r api.Recipe, known []api.Known) (string, api.Errno, int) {
	if e, _ := label.Check(name); e != api.OK {
		return "", e, -1
	}
	if e, field := recipe.Check(r); e != api.OK {
		return "", e, field
	}
	if recipe.Mode(r) == 1 {
		return "fixed:" + name + ":" + r.Outputs[0].Algo + ":" + r.Outputs[0].Sum, api.OK, 0
	}
	asked := map[string]map[string]bool{}
	for i, in := range r.Inputs {
		at := slices.IndexFunc(known, func(k api.Known) bool { return k.Recipe == in.Recipe })
		if at < 0 {
			return "", api.ErrInput, i
		}
		digits := fmt.Sprintf("%x", known[at].Sum)
		if asked[digits] == nil {
			asked[digits] = map[string]bool{}
		}
		for _, output := range in.Outputs {
			asked[digits][output] = true
		}
	}
	out := "recipe:" + name + "\n"
	for _, digits := range slices.Sorted(maps.Keys(asked)) {
		out += digits + "!" + strings.Join(slices.Sorted(maps.Keys(asked[digits])), ",") + "\n"
	}
	blank := recipe.Blank(r)
	blank.Inputs = nil
	text, e, _ := recipe.Print(blank)
	if e != api.OK {
		return "", api.ErrLong, -1
	}
	return out + text, api.OK, 0
}

// holdHash holds Hash against the plain reading.
func holdHash(t *testing.T, name string, r api.Recipe, known []api.Known) {
	t.Helper()
	text, wantE, wantAt := plainText(name, r, known)
	var want api.Sum
	if wantE == api.OK {
		want = sha256.Sum256([]byte(text))
	}
	if sum, e, at := Hash(name, r, known); sum != want || e != wantE || at != wantAt {
		t.Fatalf("P7.1: Hash(%s) = %x, %d, %d, want %x, %d, %d: %s", short(name), sum, e, at, want, wantE, wantAt, short(text))
	}
}

// plainFill is Fill by the chapter's words.
func plainFill(name string, r api.Recipe, known []api.Known) (api.Recipe, api.Errno, int) {
	text, e, at := plainText(name, r, known)
	if e != api.OK {
		return api.Recipe{}, e, at
	}
	out := recipe.Blank(r)
	for i, o := range out.Outputs {
		var l api.Label
		switch recipe.Mode(r) {
		case 0:
			if l, e = label.Output(sha256.Sum256([]byte(text)), o.Name, name); e != api.OK {
				return api.Recipe{}, e, i
			}
		case 1:
			sum, _ := hex.DecodeString(o.Sum)
			l, _ = label.Fixed(name, api.Sum(sum), o.Algo == "sha256")
		case 2:
			continue
		}
		out.Outputs[i].Label, _ = label.Print(l)
		for k := range out.Env {
			if out.Env[k].Key == o.Name {
				out.Env[k].Value = out.Outputs[i].Label
			}
		}
	}
	return out, api.OK, 0
}

// holdFill holds Fill and Fits against the plain reading, and against what follows (P7.8).
func holdFill(t *testing.T, name string, r api.Recipe, known []api.Known) {
	t.Helper()
	want, wantE, wantAt := plainFill(name, r, known)
	got, e, at := Fill(name, r, known)
	if e != wantE || at != wantAt || !same(got, want) {
		t.Fatalf("P7.2: Fill(%s) = %d, %d, %v, want %d, %d, %v", short(name), e, at, got, wantE, wantAt, want)
	}
	if wantE == api.OK {
		if at := slices.IndexFunc(r.Outputs, func(o api.Output) bool { return !slices.Contains(want.Outputs, o) }); at >= 0 {
			wantE, wantAt = api.ErrOutput, at
		}
	}
	if e, at := Fits(name, r, known); e != wantE || at != wantAt {
		t.Fatalf("P7.3: Fits(%s) = %d, %d, want %d, %d", short(name), e, at, wantE, wantAt)
	}
	if e == api.OK {
		holdFilled(t, name, r, got, known)
	}
}

// holdFilled holds what Fill answered against P7.8.
func holdFilled(t *testing.T, name string, r, filled api.Recipe, known []api.Known) {
	t.Helper()
	if again, e, at := Fill(name, filled, known); e != api.OK || at != 0 || !same(again, filled) {
		t.Fatalf("P7.8: Fill of Fill's answer: %d, %d, %v, want %v", e, at, again, filled)
	}
	if e, at := Fits(name, filled, known); e != api.OK || at != 0 {
		t.Fatalf("P7.8: Fits of Fill's answer: %d, %d", e, at)
	}
	sum, _, _ := Hash(name, r, known)
	for what, other := range map[string]api.Recipe{"Fill's answer": filled, "Blank": recipe.Blank(r)} {
		if got, e, at := Hash(name, other, known); got != sum || e != api.OK || at != 0 {
			t.Fatalf("P7.8: Hash of %s: %x, %d, %d, want %x", what, got, e, at, sum)
		}
	}
}

func number(n int) string { return string(binary.LittleEndian.AppendUint64(nil, uint64(n))) }

func word(s string) string {
	return number(len(s)) + s + strings.Repeat("\x00", (8-len(s)%8)%8)
}

// plainHits says whether P7.6 has nothing against a member's Hits.
func plainHits(m api.Member, members int) bool {
	for i, h := range m.Hits {
		if h.At < 0 || h.At > len(m.Ark)-32 || h.Which < 0 || h.Which > members-1 || i > 0 && h.At < m.Hits[i-1].At+32 {
			return false
		}
	}
	return true
}

// plainMember is the first error of a member.
func plainMember(members []api.Member, which int) api.Errno {
	m := members[which]
	var ahead []string
	for _, x := range members[:which] {
		ahead = append(ahead, x.Name)
	}
	e, _ := label.Check(m.Name)
	_, eArk, _ := ark.Parse(m.Ark)
	var eRef api.Errno
	for _, ref := range slices.Backward(m.Refs) {
		if e, _ := label.Check(ref.Name); e != api.OK {
			eRef = e
		}
	}
	for _, c := range []struct {
		wrong bool
		e     api.Errno
	}{
		{e != api.OK, e}, {slices.Contains(ahead, m.Name), api.ErrTwins}, {eArk != api.OK, api.ErrArk}, {!plainHits(m, len(members)), api.ErrArg},
		{len(m.Refs) > 256, api.ErrLong}, {eRef != api.OK, eRef}, {!slices.Equal(label.Sort(m.Refs), m.Refs), api.ErrOrder},
	} {
		if c.wrong {
			return c.e
		}
	}
	return api.OK
}

// plainGroup is Group by the chapter's words.
func plainGroup(members []api.Member) (api.Naming, api.Errno, int) {
	if len(members) > 64 {
		return api.Naming{}, api.ErrLong, 0
	}
	if len(members) < 1 {
		return api.Naming{}, api.ErrArg, 0
	}
	var names []string
	for i, m := range members {
		if e := plainMember(members, i); e != api.OK {
			return api.Naming{}, e, i
		}
		names = append(names, m.Name)
	}
	slices.Sort(names)
	text := word("graft-group-1") + number(len(members))
	for _, name := range names {
		m := members[slices.IndexFunc(members, func(m api.Member) bool { return m.Name == name })]
		text += word(name) + number(len(m.Refs))
		for _, ref := range m.Refs {
			text += word(digest.Base32(ref.Hash[:]) + "-" + ref.Name)
		}
		masked, hits := slices.Clone(m.Ark), []string{number(len(m.Hits))}
		for _, h := range m.Hits {
			copy(masked[h.At:], strings.Repeat("\x00", 32))
			hits = append(hits, number(h.At), number(slices.Index(names, members[h.Which].Name)))
		}
		text += word(string(masked)) + strings.Join(hits, "")
	}
	n := api.Naming{Sum: sha256.Sum256([]byte(text)), Text: []byte(text)}
	for _, m := range members {
		l, _ := label.Member(n.Sum, slices.Index(names, m.Name), m.Name)
		n.Labels = append(n.Labels, l)
	}
	return n, api.OK, 0
}

// holdGroup holds Group against the plain reading.
func holdGroup(t *testing.T, members []api.Member) api.Naming {
	t.Helper()
	want, wantE, wantAt := plainGroup(members)
	got, e, at := Group(members)
	if e != wantE || at != wantAt || !same(got, want) {
		t.Fatalf("P7.6: Group of %d: %d, %d, want %d, %d; %x, %v, %s, want %x, %v, %s", len(members), e, at, wantE, wantAt,
			got.Sum, got.Labels, short(string(got.Text)), want.Sum, want.Labels, short(string(want.Text)))
	}
	return got
}

// plainRenamed is Renamed by the chapter's words.
func plainRenamed(members []api.Member, n api.Naming) ([]string, api.Errno) {
	if len(members) != len(n.Labels) || slices.ContainsFunc(members, func(m api.Member) bool { return !plainHits(m, len(members)) }) {
		return nil, api.ErrArg
	}
	var out []string
	for _, m := range members {
		data := slices.Clone(m.Ark)
		for _, h := range m.Hits {
			copy(data[h.At:], digest.Base32(n.Labels[h.Which].Hash[:]))
		}
		out = append(out, string(data))
	}
	return out, api.OK
}

// holdRenamed holds Renamed against the plain reading.
func holdRenamed(t *testing.T, members []api.Member, n api.Naming) [][]byte {
	t.Helper()
	want, wantE := plainRenamed(members, n)
	got, e := Renamed(members, n)
	var texts []string
	for _, data := range got {
		texts = append(texts, string(data))
	}
	if e != wantE || !reflect.DeepEqual(texts, want) {
		t.Fatalf("P7.7: Renamed of %d with %d labels: %d, %s, want %d, %s", len(members), len(n.Labels), e, short(strings.Join(texts, "|")), wantE, short(strings.Join(want, "|")))
	}
	return got
}

func sourceOf(seed uint64) *rand.Rand { return rand.New(rand.NewPCG(seed, 7)) }

func pick[T any](r *rand.Rand, list ...T) T { return list[r.IntN(len(list))] }

// fileArk is the archive of a file.
func fileArk(t testing.TB, data string) []byte {
	t.Helper()
	return treeArk(t, api.Node{Kind: api.KindFile, Data: []byte(data)})
}

func treeArk(t testing.TB, n api.Node) []byte {
	t.Helper()
	data, e := ark.Print(n)
	if e != api.OK {
		t.Fatalf("an archive: %d", e)
	}
	return data
}

// someTexts is texts out of a few names, in order.
func someTexts(r *rand.Rand, most int, ahead, behind string) []string {
	var out []string
	for range r.IntN(most + 1) {
		out = append(out, ahead+pick(r, "a", "b", "ab", "out", "doc", "A", "a.b", "_=?+")+pick(r, "", "1", "-b")+behind)
	}
	slices.Sort(out)
	return slices.Compact(out)
}

// someRecipe is a recipe that may be, of any mode.
func someRecipe(r *rand.Rand) api.Recipe {
	out := api.Recipe{Sources: someTexts(r, 3, store, ""), System: "any", Builder: "b", Args: someTexts(r, 3, "\n\"", "\xff")}
	for _, in := range someTexts(r, 5, store, ".recipe") {
		out.Inputs = append(out.Inputs, api.Input{Recipe: in, Outputs: append(someTexts(r, 3, "", ""), "recipe")})
	}
	algo, sum := "", ""
	names := append(someTexts(r, 3, "", ""), "zz")
	switch r.IntN(3) {
	case 1:
		names, algo, sum = []string{"out"}, pick(r, "sha256", "r:sha256"), strings.Repeat(pick(r, "0a", "ff"), 32)
	case 2:
		algo = "r:sha256"
	}
	out.Env = []api.Pair{{Key: "!", Value: "a"}}
	for _, name := range names {
		l := ""
		if algo == "" || sum != "" {
			l = pick(r, "", store+name)
		}
		out.Outputs = append(out.Outputs, api.Output{Name: name, Label: l, Algo: algo, Sum: sum})
		out.Env = append(out.Env, api.Pair{Key: name, Value: l})
	}
	return out
}

// someKnown tells of most of a recipe's inputs, of some twice, and of others, in any order; and of few sums.
func someKnown(r *rand.Rand, of api.Recipe) []api.Known {
	var out []api.Known
	for _, text := range someTexts(r, 2, store, ".recipe") {
		out = append(out, api.Known{Recipe: text, Sum: api.Sum{byte(r.IntN(3))}})
	}
	for _, in := range of.Inputs {
		if r.IntN(12) > 0 {
			out = append(out, api.Known{Recipe: in.Recipe, Sum: api.Sum{0, byte(r.IntN(3))}})
		}
	}
	r.Shuffle(len(out), func(i, k int) { out[i], out[k] = out[k], out[i] })
	return out
}
