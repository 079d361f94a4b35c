package forge

import (
	"slices"

	"graft/api"
	"graft/digest"
	"graft/label"
	"graft/sieve"
)

// cast is all labels that outputs may mention.
type cast struct {
	labels []api.Label // in order
	firsts []int       // of each unlike hash part, the first label that has it; behind these the number of labels
	finder finder
}

func castOf(labels []api.Label) cast {
	c := cast{labels: label.Sort(labels)}
	var hashes []api.Hash
	for i, l := range c.labels {
		if i == 0 || c.labels[i-1].Hash != l.Hash {
			hashes, c.firsts = append(hashes, l.Hash), append(c.firsts, i)
		}
	}
	c.firsts = append(c.firsts, len(c.labels))
	c.finder = finderOf(hashes)
	return c
}

// unlike says whether no two labels have one hash part. Then a hash part's number is its label's.
func (c cast) unlike() bool { return len(c.firsts) == len(c.labels)+1 }

// hits is where bytes have which of the hash parts, by place.
func (c cast) hits(data []byte) []api.Hit { return c.finder.hits(data) }

// mentioned is the labels that these hits are of, in order.
func (c cast) mentioned(hits []api.Hit) []api.Label {
	var out []api.Label
	for _, which := range numbersOf(hits) {
		out = append(out, c.labels[c.firsts[which]:c.firsts[which+1]]...)
	}
	return out
}

// numbersOf is the numbers of hits' patterns, rising, none twice.
func numbersOf(hits []api.Hit) []int {
	out := make([]int, len(hits))
	for i, h := range hits {
		out[i] = h.Which
	}
	slices.Sort(out)
	return slices.Compact(out)
}

// among says whether a label is one of some that are in order.
func among(some []api.Label, l api.Label) bool {
	_, there := slices.BinarySearchFunc(some, l, label.Compare)
	return there
}

// finder finds hash parts, however many there are: as many sieves as that takes.
type finder []*sieve.Sieve

// finderOf is a finder of hashes that are unlike.
func finderOf(hashes []api.Hash) finder {
	var out finder
	for some := range slices.Chunk(hashes, api.MaxPatterns) {
		parts := make([]string, len(some))
		for i, h := range some {
			parts[i] = digest.Base32(h[:])
		}
		s, _ := sieve.New(parts) // neither too many nor one twice
		out = append(out, s)
	}
	return out
}

// hits is where bytes have which of the hashes, by place.
func (f finder) hits(data []byte) []api.Hit {
	var out []api.Hit
	for i, s := range f {
		for _, h := range s.Scan(data) {
			out = append(out, api.Hit{At: h.At, Which: i*api.MaxPatterns + h.Which})
		}
	}
	slices.SortFunc(out, func(a, b api.Hit) int { return a.At - b.At })
	return out
}
