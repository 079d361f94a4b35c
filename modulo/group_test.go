package modulo

import (
	"bytes"
	"fmt"
	"math"
	"math/rand/v2"
	"slices"
	"strings"
	"testing"

	"graft/api"
	"graft/label"
)

// ring is two members that mention each other; a's digits stand where b mentions it, and b's where a does.
func ring(t testing.TB, a, b string) []api.Member {
	t.Helper()
	return []api.Member{
		{Name: "a", Ark: fileArk(t, "AAAAAAAA"+b), Hits: []api.Hit{{At: 104, Which: 1}}},
		{Name: "b", Ark: fileArk(t, "see "+a+"/x"), Hits: []api.Hit{{At: 100, Which: 0}}, Refs: []api.Label{{Name: "r"}}},
	}
}

func refuseGroup(t *testing.T, what string, members []api.Member, want api.Errno, wantAt int) {
	t.Helper()
	holdGroup(t, members)
	if n, e, at := Group(members); !same(n, api.Naming{}) || e != want || at != wantAt {
		t.Errorf("P7.6: %s: %d, %d, want %d, %d", what, e, at, want, wantAt)
	}
}

func takeGroup(t *testing.T, what string, members []api.Member) api.Naming {
	t.Helper()
	n := holdGroup(t, members)
	if _, e, at := Group(members); e != api.OK || at != 0 {
		t.Errorf("P7.6: %s: %d, %d", what, e, at)
	}
	return n
}

func printed(t *testing.T, l api.Label) string {
	t.Helper()
	text, e := label.Print(l)
	if e != api.OK {
		t.Errorf("%v: %d", l, e)
	}
	return text
}

// The example 9: the values were made by another program.
func TestGroupOne(t *testing.T) {
	x := api.Member{Name: "x", Ark: fileArk(t, "")}
	n := takeGroup(t, "9", []api.Member{x})
	if len(x.Ark) != 112 || len(n.Text) != 24+8+16+8+8+112+8 || fmt.Sprintf("%x", n.Sum) != "7d8cf1acf6e9323b975220165fa68b3b2f31015725610e4232e29fd21040d06a" {
		t.Errorf("9: %d bytes, %x", len(n.Text), n.Sum)
	}
	if len(n.Labels) != 1 || printed(t, n.Labels[0]) != "/graft/store/kd2ikdfr207g245qzkzn6gg11l5wcpbv-x" {
		t.Errorf("9: %v", n.Labels)
	}
	refuseGroup(t, "9: none", nil, api.ErrArg, 0)
	refuseGroup(t, "9: none", []api.Member{}, api.ErrArg, 0)
	refuseGroup(t, "9: two named x", []api.Member{x, x}, api.ErrTwins, 1)
	with := func(places ...int) []api.Member {
		m := x
		for _, at := range places {
			m.Hits = append(m.Hits, api.Hit{At: at})
		}
		return []api.Member{m}
	}
	refuseGroup(t, "9: at 81", with(81), api.ErrArg, 0)
	takeGroup(t, "9: at 80", with(80))
	refuseGroup(t, "9: at 8 and 39", with(8, 39), api.ErrArg, 0)
	takeGroup(t, "9: at 8 and 40", with(8, 40))
}

// The example 10: the values were made by another program.
func TestGroupRing(t *testing.T) {
	members := ring(t, strings.Repeat("1", 32), strings.Repeat("2", 32))
	n := takeGroup(t, "10", members)
	a, b := "/graft/store/bamy1lixri3c3sj7c47pnk8np6vql19r-a", "/graft/store/d8swr9gf8mjvzximwsa14781q0bbkk2s-b"
	if fmt.Sprintf("%x", n.Sum) != "2f409bccdcd5e8f8535c939efa6fffd649a11d4a0cc7bd517081f9459212be95" || printed(t, n.Labels[0]) != a || printed(t, n.Labels[1]) != b {
		t.Errorf("10: %x, %v", n.Sum, n.Labels)
	}
	turned := []api.Member{members[1], members[0]}
	turned[0].Hits, turned[1].Hits = []api.Hit{{At: 100, Which: 1}}, []api.Hit{{At: 104, Which: 0}}
	m := takeGroup(t, "10, exchanged", turned)
	if m.Sum != n.Sum || !bytes.Equal(m.Text, n.Text) || m.Labels[0] != n.Labels[1] || m.Labels[1] != n.Labels[0] {
		t.Errorf("10: exchanged: %x, %v", m.Sum, m.Labels)
	}
	for _, other := range []string{strings.Repeat("\x00", 32), strings.Repeat("z", 32), strings.Repeat("\xff", 32)} {
		if m := takeGroup(t, "10, other digits", ring(t, other, strings.Repeat("3", 32))); !same(m, n) {
			t.Errorf("10: other digits: %x", m.Sum)
		}
	}
}

// named is so many members, none with mentions.
func named(t testing.TB, n int) []api.Member {
	var out []api.Member
	for i := range n {
		out = append(out, api.Member{Name: fmt.Sprintf("m%d", i), Ark: fileArk(t, fmt.Sprint(i))})
	}
	return out
}

// P7.6: how many members there may be. Names are in order as texts, so that m10 comes ahead of m2.
func TestGroupSizes(t *testing.T) {
	for _, n := range []int{1, 2, 3, 11, 63, 64} {
		members := named(t, n)
		for i := range members { // each mentions all others, as far as there is room
			members[i].Ark = fileArk(t, strings.Repeat("-", 32*n))
			for k := range n {
				members[i].Hits = append(members[i].Hits, api.Hit{At: 96 + 32*k, Which: (i + k) % n})
			}
		}
		takeGroup(t, fmt.Sprintf("%d members", n), members)
	}
	for _, n := range []int{65, 66, 300} {
		refuseGroup(t, fmt.Sprintf("%d members", n), named(t, n), api.ErrLong, 0)
		refuseGroup(t, fmt.Sprintf("%d members that are none", n), make([]api.Member, n), api.ErrLong, 0)
	}
}

// faults is what makes a member none, in the chapter's order: what stands later is not told while what stands ahead holds.
func faults() []memberFault {
	refs := func(names ...string) []api.Label {
		var out []api.Label
		for i, name := range names {
			out = append(out, api.Label{Hash: someHash(i), Name: name})
		}
		return out
	}
	hits := func(list ...api.Hit) func(*api.Member) { return func(m *api.Member) { m.Hits = list } }
	return []memberFault{
		{api.ErrLong, func(m *api.Member) { m.Name = strings.Repeat("n", 212) }}, {api.ErrName, func(m *api.Member) { m.Name = "" }},
		{api.ErrName, func(m *api.Member) { m.Name = ".a" }}, {api.ErrName, func(m *api.Member) { m.Name = "a b" }},
		{api.ErrTwins, func(m *api.Member) { m.Name = "first" }},
		{api.ErrArk, func(m *api.Member) { m.Ark = nil }}, {api.ErrArk, func(m *api.Member) { m.Ark = m.Ark[:max(len(m.Ark)-2, 0)] }},
		{api.ErrArk, func(m *api.Member) { m.Ark = append(slices.Clone(m.Ark), 0) }},
		{api.ErrArk, func(m *api.Member) { m.Ark = slices.Concat([]byte{1}, m.Ark[min(len(m.Ark), 1):]) }},
		{api.ErrArk, func(m *api.Member) { m.Ark = bytes.Repeat([]byte{0}, 1<<20+8) }},
		{api.ErrArg, hits(api.Hit{At: -1})}, {api.ErrArg, hits(api.Hit{At: math.MinInt})}, {api.ErrArg, hits(api.Hit{At: math.MaxInt})},
		{api.ErrArg, hits(api.Hit{At: 201})}, {api.ErrArg, hits(api.Hit{Which: -1})}, {api.ErrArg, hits(api.Hit{Which: 3})},
		{api.ErrArg, hits(api.Hit{Which: math.MinInt})}, {api.ErrArg, hits(api.Hit{Which: math.MaxInt})},
		{api.ErrArg, hits(api.Hit{At: 8}, api.Hit{At: 8})}, {api.ErrArg, hits(api.Hit{At: 8}, api.Hit{At: 39})}, {api.ErrArg, hits(api.Hit{At: 40}, api.Hit{At: 8})},
		{api.ErrArg, hits(api.Hit{At: 8}, api.Hit{At: 40}, api.Hit{At: 71})}, {api.ErrArg, hits(api.Hit{At: math.MaxInt}, api.Hit{At: math.MinInt})},
		{api.ErrArg, hits(api.Hit{At: 8}, api.Hit{At: 40, Which: 3})}, {api.ErrArg, hits(api.Hit{At: 8}, api.Hit{At: -100})},
		{api.ErrLong, func(m *api.Member) { m.Refs = make([]api.Label, 257) }},
		{api.ErrName, func(m *api.Member) { m.Refs = refs("") }}, {api.ErrName, func(m *api.Member) { m.Refs = refs("b", ".", strings.Repeat("n", 212)) }},
		{api.ErrLong, func(m *api.Member) { m.Refs = refs("b", strings.Repeat("n", 212), "") }},
		{api.ErrName, func(m *api.Member) { m.Refs = []api.Label{{Name: "b"}, {Name: "a"}, {Name: "a/"}} }},
		{api.ErrOrder, func(m *api.Member) { m.Refs = []api.Label{{Name: "b"}, {Name: "a"}} }},
		{api.ErrOrder, func(m *api.Member) { m.Refs = []api.Label{{Name: "b"}, {Name: "b"}} }},
		{api.ErrOrder, func(m *api.Member) {
			m.Refs = []api.Label{{Hash: api.Hash{2}, Name: "a"}, {Hash: api.Hash{1}, Name: "b"}}
		}},
		{api.ErrOrder, func(m *api.Member) {
			m.Refs = []api.Label{{Hash: api.Hash{0, 1}, Name: "a"}, {Hash: api.Hash{255}, Name: "b"}}
		}},
	}
}

type memberFault struct {
	e    api.Errno
	turn func(*api.Member)
}

// P7.6: what may be wrong with a member, and of two members the first is told.
func TestGroupFaults(t *testing.T) {
	three := func() []api.Member {
		out := named(t, 3)
		out[0].Name = "first"
		for i := range out {
			out[i].Ark = fileArk(t, strings.Repeat("-", 119)) // 232 bytes of archive: a mention may begin at 200, and no later
		}
		return out
	}
	for i, f := range faults() {
		for at := range 3 {
			members := three()
			f.turn(&members[at])
			what := fmt.Sprintf("the fault %d of the member %d", i, at)
			if f.e == api.ErrTwins && at == 0 {
				takeGroup(t, what, members)
				continue
			}
			refuseGroup(t, what, members, f.e, at)
			for later := at + 1; later < 3; later++ {
				for _, other := range faults() {
					members := three()
					f.turn(&members[at])
					other.turn(&members[later])
					refuseGroup(t, what, members, f.e, at)
				}
			}
		}
	}
}

// P7.6: of several faults of one member the first is told.
func TestGroupFaultsOrder(t *testing.T) {
	kinds := func(e api.Errno) int { // how far down the chapter's list a fault stands; the names' errors stand twice
		return slices.Index([]api.Errno{api.ErrTwins, api.ErrArk, api.ErrArg, api.ErrOrder}, e)
	}
	for i, f := range faults() {
		for k, other := range faults() {
			members := named(t, 3)
			members[0].Name = "first"
			members[1].Ark = fileArk(t, strings.Repeat("-", 119))
			f.turn(&members[1])
			other.turn(&members[1])
			n, e, at := Group(members)
			want, wantE, wantAt := plainGroup(members)
			if e != wantE || at != wantAt || !same(n, want) || wantAt != 1 {
				t.Errorf("P7.6: the faults %d and %d: %d, %d, want %d, %d", i, k, e, at, wantE, wantAt)
			}
			if a, b := kinds(f.e), kinds(other.e); a >= 0 && b > a && e != f.e {
				t.Errorf("P7.6: the faults %d and %d: %d, want %d", i, k, e, f.e)
			}
		}
	}
}

// P7.6: the greatest of all things that may be.
func TestGroupGreatest(t *testing.T) {
	long := strings.Repeat("n", 211)
	var refs []api.Label
	for i := range 256 {
		refs = append(refs, api.Label{Hash: someHash(i), Name: long})
	}
	refs = label.Sort(refs)
	data := fileArk(t, strings.Repeat("d", 1<<20-112))
	var hits []api.Hit
	for at := 0; at+32 <= len(data); at += 32 {
		hits = append(hits, api.Hit{At: at, Which: (at / 32) % 2})
	}
	members := []api.Member{{Name: long, Ark: data, Hits: hits, Refs: refs}, {Name: "a", Ark: data, Refs: refs[:1], Hits: []api.Hit{{At: 1<<20 - 32, Which: 0}}}}
	n := takeGroup(t, "the greatest", members)
	if len(data) != 1<<20 || len(hits) != 1<<15 || len(refs) != 256 || len(n.Text) < 2<<20 {
		t.Errorf("%d bytes, %d mentions, %d references", len(data), len(hits), len(refs))
	}
	members[0].Refs = label.Sort(append(slices.Clone(refs), api.Label{Name: "one.more"}))
	refuseGroup(t, "257 references", members, api.ErrLong, 0)
}

// P7.6: archives of all kinds of trees; a mention may lie anywhere in them.
func TestGroupTrees(t *testing.T) {
	link := api.Node{Kind: api.KindLink, Link: "/graft/store/" + strings.Repeat("7", 32) + "-x"}
	run := api.Node{Kind: api.KindFile, Exec: true, Data: []byte("#!" + strings.Repeat("8", 32))}
	dir := api.Node{Kind: api.KindDir, List: []api.Entry{{Name: strings.Repeat("9", 32), Node: link}, {Name: "b", Node: run}}}
	var members []api.Member
	for i, tree := range []api.Node{link, run, dir, {Kind: api.KindDir}} {
		data := treeArk(t, tree)
		m := api.Member{Name: string(rune('d' - i)), Ark: data}
		for digit := range 10 {
			if at := bytes.Index(data, bytes.Repeat([]byte{byte('0' + digit)}, 32)); at >= 0 {
				m.Hits = append(m.Hits, api.Hit{At: at, Which: digit % 4})
			}
		}
		slices.SortFunc(m.Hits, func(a, b api.Hit) int { return a.At - b.At })
		members = append(members, m)
	}
	if len(members[2].Hits) != 3 {
		t.Fatalf("%v", members[2].Hits)
	}
	takeGroup(t, "trees", members)
}

// someMember is a member of a group of so many that may be one; its mentions lie within the file's bytes, if they are to.
func someMember(t testing.TB, r *rand.Rand, name string, members int, within bool) api.Member {
	m := api.Member{Name: name}
	data := make([]byte, r.IntN(300))
	for i := range data {
		data[i] = pick(r, '0', 'a', 'z', byte(r.IntN(256)))
	}
	m.Ark = fileArk(t, string(data))
	from, to := 0, len(m.Ark)
	if within {
		from, to = 96, 96+len(data)
	}
	for at := from + r.IntN(60); at+32 <= to && r.IntN(5) > 0; at += 32 + pick(r, 0, 0, 1, r.IntN(60)) {
		m.Hits = append(m.Hits, api.Hit{At: at, Which: r.IntN(members)})
	}
	for range r.IntN(4) {
		m.Refs = append(m.Refs, api.Label{Hash: someHash(r.IntN(3)), Name: pick(r, "a", "b", "r", "r-1")})
	}
	m.Refs = label.Sort(m.Refs)
	return m
}

// someGroup is members that may be a group.
func someGroup(t testing.TB, r *rand.Rand) []api.Member {
	names := []string{"a", "b", "a.b", "a-", "A", "aa", "_", "z?", "0", "+=", strings.Repeat("n", 211), "lib-2.0"}
	r.Shuffle(len(names), func(i, k int) { names[i], names[k] = names[k], names[i] })
	names = names[:1+r.IntN(len(names))]
	within := r.IntN(2) == 0
	var out []api.Member
	for _, name := range names {
		out = append(out, someMember(t, r, name, len(names), within))
	}
	return out
}

// spoilMember turns something of a member that may be one.
func spoilMember(r *rand.Rand, m *api.Member) {
	switch r.IntN(7) {
	case 0:
		m.Name = pick(r, "a", "b", "", ".a", "a/b")
	case 1:
		m.Ark = m.Ark[:r.IntN(len(m.Ark)+1)]
	case 2:
		m.Ark = slices.Clone(m.Ark)
		m.Ark[r.IntN(len(m.Ark))] ^= 1
	case 3:
		m.Hits = append(slices.Clone(m.Hits), api.Hit{At: r.IntN(500) - 50, Which: r.IntN(16) - 2})
	case 4:
		m.Hits = slices.Clone(m.Hits)
		slices.Reverse(m.Hits)
	case 5:
		m.Refs = append(slices.Clone(m.Refs), api.Label{Name: pick(r, "a", "z", "", ".")})
	case 6:
		m.Refs = slices.Clone(m.Refs)
		slices.Reverse(m.Refs)
	}
}

// P7.6 and P7.7: any groups, right and wrong.
func TestGroupMany(t *testing.T) {
	r := sourceOf(1)
	told := map[api.Errno]int{}
	for range 3000 {
		members := someGroup(t, r)
		for range pick(r, 0, 0, 1, 2, 5) {
			m := &members[r.IntN(len(members))]
			if len(m.Ark) > 0 {
				spoilMember(r, m)
			}
		}
		holdGroup(t, members)
		n, e, _ := Group(members)
		told[e]++
		if e != api.OK {
			n.Labels = make([]api.Label, len(members))
		}
		holdRenamed(t, members, n)
	}
	for _, e := range []api.Errno{api.OK, api.ErrName, api.ErrTwins, api.ErrArk, api.ErrArg, api.ErrOrder} {
		if told[e] < 30 {
			t.Errorf("%d was answered %d times: %v", e, told[e], told)
		}
	}
}
