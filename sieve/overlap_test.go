package sieve

import (
	"math"
	"math/big"
	"testing"

	"graft/api"
)

func hitsAt(places ...int) []api.Hit {
	var out []api.Hit
	for i, at := range places {
		out = append(out, api.Hit{At: at, Which: 9 - i})
	}
	return out
}

// P5.3.
func TestOverlap(t *testing.T) {
	for _, c := range []struct {
		hits  []api.Hit
		width int
		want  int
	}{
		{nil, 5, -1}, {[]api.Hit{}, math.MaxInt, -1}, {hitsAt(3), math.MaxInt, -1},
		{hitsAt(0, 5), 5, -1}, {hitsAt(0, 4), 5, 1}, {hitsAt(0, 1), 5, 1}, {hitsAt(7, 7), 1, 1}, {hitsAt(7, 7), 0, -1},
		{hitsAt(0, 5, 10, 14, 15), 5, 3}, {hitsAt(0, 5, 10, 15, 19), 5, 4},
		{hitsAt(9, 1), 0, 1}, {hitsAt(9, 1), -7, 1}, {hitsAt(9, 1), -8, -1}, {hitsAt(9, 1), -9, -1},
		{hitsAt(0, 10, 4, 20), 5, 2}, // it goes by the list as it is: 0 and 4 are no neighbours
		{hitsAt(math.MinInt, math.MaxInt), math.MaxInt, -1}, {hitsAt(math.MaxInt, math.MinInt), math.MinInt, 1},
		{hitsAt(math.MaxInt, math.MinInt), math.MaxInt, 1}, {hitsAt(0, math.MinInt), math.MinInt, -1}, {hitsAt(1, math.MinInt), math.MinInt, 1},
		{hitsAt(0, math.MaxInt), math.MaxInt, -1}, {hitsAt(1, math.MaxInt), math.MaxInt, 1}, {hitsAt(-1, math.MaxInt), math.MaxInt, -1},
	} {
		if got := Overlap(c.hits, c.width); got != c.want {
			t.Errorf("Overlap(%v, %d) = %d, want %d", c.hits, c.width, got, c.want)
		}
	}
}

// P5.3, as whole numbers that never wrap.
func TestOverlapNumbers(t *testing.T) {
	numbers := []int{math.MinInt, math.MinInt + 1, math.MinInt / 2, -3, -2, -1, 0, 1, 2, 3, math.MaxInt / 2, math.MaxInt/2 + 1, math.MaxInt - 1, math.MaxInt}
	for _, from := range numbers {
		for _, to := range numbers {
			difference := new(big.Int).Sub(big.NewInt(int64(to)), big.NewInt(int64(from)))
			for _, width := range numbers {
				want := -1
				if difference.Cmp(big.NewInt(int64(width))) < 0 {
					want = 1
				}
				if got := Overlap(hitsAt(from, to), width); got != want {
					t.Errorf("%d behind %d, width %d: %d, want %d", to, from, width, got, want)
				}
			}
		}
	}
}

func TestOverlapHandedIn(t *testing.T) {
	hits := hitsAt(9, 1, 4, 4)
	Overlap(hits[:3], 2)
	checkHits(t, "hits", hits, hitsAt(9, 1, 4, 4))
}
