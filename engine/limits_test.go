package engine

import (
	"testing"

	"graft/api"
)

// A script at each limit of the journal, from the least to one that all of it fits: each call is done whole or not at all.
func TestLimits(t *testing.T) {
	play := func(b *both) map[api.Errno]int {
		seen := map[api.Errno]int{}
		tell := func(o api.Outcome) { seen[o.Err]++ }
		tell(b.take([]api.Object{holding(la, part(lb)+part(la), la, lb), holding(lb, "hi")}, 7))
		own := b.text("t", "text")
		tell(own)
		tell(b.take([]api.Object{holding(lc, part(la)+part(own.At), la, own.At)}, 7))
		tell(b.tree("d", dir(entry("a", link("b")))))
		tell(b.rewrite(31, lb))
		tell(b.rewrite(32, lc, la))
		tell(b.text("u", "see "+part(own.At), own.At))
		tell(b.rewrite(33, lb, la))
		for _, l := range b.e.Shelf().List() {
			tell(b.verify(l, 5))
			b.lookup(l)
		}
		return seen
	}
	whole := newBoth(t)
	play(whole)
	end := whole.e.Shelf().Stat().Journal
	full := 0
	for limit := api.MinRoom; limit <= end; limit++ {
		seen := play(bothOn(t, api.Disk{}, limit))
		full += seen[api.ErrFull]
		if limit < end && seen[api.ErrFull] == 0 || limit == end && seen[api.ErrFull] > 0 {
			t.Errorf("limit %d of %d: %v", limit, end, seen)
		}
	}
	if full == 0 {
		t.Error("no limit is met")
	}
}
