package engine

import (
	"cmp"
	"iter"
	"slices"

	"graft/api"
	"graft/digest"
	"graft/lay"
	"graft/sieve"
)

// archive is one of a closure's, however many objects have it: what it mentions hangs on its bytes alone, and so does what becomes
// of it. No place of a mention is 0, as an archive begins with a word of its own: so 0 says that there is none.
type archive struct {
	data   []byte    // as it is on the shelf; new hash parts are written into it as names are given
	hits   []api.Hit // all mentions, by place; Which is the object's number. None, if two of them overlap.
	firsts []api.Hit // of each object that is mentioned, by its number, the first mention
	inName int       // the place of the first mention within an entry's name
	cross  int       // the place of the first mention that overlaps the one ahead of it
	stray  int       // the place of the first hash part in the new archive, an old one or a new one, where there is no mention
}

// newArchive looks for mentions, once and for all.
func newArchive(data []byte, finder *sieve.Sieve, chunk int) archive {
	hits := scan(finder, data, chunk)
	a := archive{data: data, hits: hits, firsts: firstsOf(hits, finder.Len()), inName: firstInName(data, hits)}
	if i := sieve.Overlap(hits, api.Digits); i > 0 {
		a.cross, a.hits = hits[i].At, nil // nothing is renamed then, and there may be very many
	}
	return a
}

// partOf is a label's hash part.
func partOf(l api.Label) string { return digest.Base32(l.Hash[:]) }

// finderOf is a sieve of the hash parts of labels, no two of which have the same; each stands for its label's number.
func finderOf(labels []api.Label) *sieve.Sieve {
	parts := make([]string, len(labels))
	for i, l := range labels {
		parts[i] = partOf(l)
	}
	s, _ := sieve.New(parts) // neither too many nor one twice
	return s
}

// scan is all hits in bytes that are handed on in pieces of so many.
func scan(s *sieve.Sieve, data []byte, chunk int) []api.Hit {
	var hits []api.Hit
	c := s.Scanner()
	for piece := range slices.Chunk(data, chunk) {
		hits = append(hits, c.Feed(piece)...)
	}
	return hits
}

// firstsOf is the first hit of each of so many numbers, by these.
func firstsOf(hits []api.Hit, numbers int) []api.Hit {
	places := make([]int, numbers)
	for _, h := range slices.Backward(hits) {
		places[h.Which] = h.At
	}
	var out []api.Hit
	for which, at := range places {
		if at > 0 {
			out = append(out, api.Hit{At: at, Which: which})
		}
	}
	return out
}

// hitFrom is the number of the first of hits, which are in order, that is not ahead of a place; their count if there is none.
func hitFrom(hits []api.Hit, at int) int {
	i, _ := slices.BinarySearchFunc(hits, at, func(h api.Hit, at int) int { return cmp.Compare(h.At, at) })
	return i
}

// firstInName is the place of the first of an archive's hits that lies within an entry's name; 0 if there is none.
func firstInName(data []byte, hits []api.Hit) int {
	for from, to := range entryNames(data) {
		if i := hitFrom(hits, from); i < len(hits) && hits[i].At < to {
			return hits[i].At
		}
	}
	return 0
}

// entryNames goes over the names of an archive's directory entries: where each begins, and where it ends.
func entryNames(data []byte) iter.Seq2[int, int] {
	return func(yield func(from, to int) bool) {
		var w word
		for at := 0; at < len(data); at = w.next {
			w = wordAt(data, at)
			switch string(data[w.from:w.to]) {
			case "contents", "target": // what comes next is no word of the grammar
				w = wordAt(data, w.next)
			case "name":
				w = wordAt(data, w.next)
				if !yield(w.from, w.to) {
					return
				}
			}
		}
	}
}

// word is one of an archive's: where its text begins and ends, and where the next one begins.
type word struct {
	from, to, next int
}

func wordAt(data []byte, at int) word {
	from := at + lay.NumberSize
	n := int(lay.Read(data[at:from]))
	return word{from, from + n, at + lay.WordSize(n)}
}
