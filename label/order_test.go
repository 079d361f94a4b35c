package label

import (
	"cmp"
	"math/rand/v2"
	"slices"
	"strings"
	"testing"

	"graft/api"
	"graft/digest"
)

// plainCompare is Compare by the words of P2.7.
func plainCompare(a, b api.Label) int {
	x, y := digest.Base32(a.Hash[:]), digest.Base32(b.Hash[:])
	if x != y {
		return cmp.Compare(x, y)
	}
	return cmp.Compare(a.Name, b.Name)
}

// manyLabels are labels of which many have hashes or names in common, printable or not.
func manyLabels() []api.Label {
	names := []string{"", "a", "ab", "abc", "b", ".", " ", "\x00", "a\x00", "\xff", "A", "-", strings.Repeat("a", 300)}
	hashes := []api.Hash{{}, {0: 1}, {0: 255}, {1: 1}, {10: 7}, {19: 1}, {19: 128}, {0: 255, 19: 1}, {18: 255}, {0: 8}, {0: 32}, {4: 255, 5: 1}}
	var out []api.Label
	for _, h := range hashes {
		for _, n := range names {
			out = append(out, api.Label{Hash: h, Name: n})
		}
	}
	return out
}

// P2.7.
func TestCompare(t *testing.T) {
	all := manyLabels()
	r := rand.New(rand.NewPCG(2, 7))
	for range 60 {
		all = append(all, someLabel(r))
	}
	for _, a := range all {
		for _, b := range all {
			got := Compare(a, b)
			if got != plainCompare(a, b) {
				t.Fatalf("Compare(%v, %v) = %d", a, b, got)
			}
			if (got == 0) != (a == b) {
				t.Fatalf("Compare(%v, %v) = %d", a, b, got)
			}
		}
	}
}

// P2.7: what the last byte of a hash says goes ahead of what the first says, and hashes ahead of names.
func TestComparePlain(t *testing.T) {
	low, high := api.Label{Hash: api.Hash{0: 255}, Name: "z"}, api.Label{Hash: api.Hash{19: 1}, Name: "a"}
	longer := api.Label{Hash: high.Hash, Name: "ab"}
	for _, c := range []struct {
		a, b api.Label
		want int
	}{
		{low, high, -1}, {high, low, 1}, {high, longer, -1}, {longer, high, 1}, {longer, longer, 0},
		{api.Label{}, api.Label{Name: " "}, -1}, {api.Label{Name: " "}, api.Label{}, 1}, {api.Label{}, api.Label{}, 0},
		{api.Label{Name: "a"}, api.Label{Name: "A"}, 1}, {api.Label{Name: "\xff"}, api.Label{Name: "z"}, 1},
	} {
		if got := Compare(c.a, c.b); got != c.want {
			t.Errorf("Compare(%v, %v) = %d, want %d", c.a, c.b, got, c.want)
		}
	}
}

// P2.7: Sort.
func TestSort(t *testing.T) {
	r := rand.New(rand.NewPCG(7, 2))
	want := manyLabels()
	slices.SortFunc(want, plainCompare)
	for range 50 {
		given := slices.Concat(want, want[:r.IntN(len(want))], want[r.IntN(len(want)):])
		r.Shuffle(len(given), func(i, j int) { given[i], given[j] = given[j], given[i] })
		if got := Sort(given); !slices.Equal(got, want) {
			t.Fatalf("Sort of %d labels has %d, want %d", len(given), len(got), len(want))
		}
	}
	a, b := api.Label{Name: "a"}, api.Label{Name: "b"}
	for _, c := range []struct{ given, want []api.Label }{
		{nil, nil},
		{[]api.Label{}, nil},
		{[]api.Label{a}, []api.Label{a}},
		{[]api.Label{a, a, a}, []api.Label{a}},
		{[]api.Label{b, a}, []api.Label{a, b}},
		{[]api.Label{b, a, b}, []api.Label{a, b}},
	} {
		if got := Sort(c.given); !slices.Equal(got, c.want) {
			t.Errorf("Sort(%v) = %v", c.given, got)
		}
	}
}

// What is handed to Sort stays as it was, with the room behind it; what it answers is new memory.
func TestSortMemory(t *testing.T) {
	a, b, c := api.Label{Name: "a"}, api.Label{Name: "b"}, api.Label{Name: "c"}
	for _, order := range [][]api.Label{{c, b, a, b, c}, {a, b, c}, {a, a, b}, {a}} {
		room := append(slices.Clone(order), c, c, c)
		given := room[:len(order)]
		got := Sort(given)
		again := slices.Clone(got)
		if !slices.Equal(given, order) || room[len(order)] != c || room[len(order)+2] != c {
			t.Errorf("Sort changed %v to %v", order, room)
		}
		clear(given)
		if !slices.Equal(got, again) {
			t.Errorf("Sort(%v) hangs on what was handed in", order)
		}
		copy(given, order)
		clear(got[:cap(got)])
		if !slices.Equal(given, order) || !slices.Equal(Sort(given), again) {
			t.Errorf("what is written into Sort(%v) shows elsewhere", order)
		}
	}
}
