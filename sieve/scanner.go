package sieve

import "graft/api"

// Scanner takes bytes piece by piece.
type Scanner struct {
	words *table[int]
	state int32 // never a whole word: behind one it has fallen back already
	at    int
	held  int
}

// Scanner is one that has taken nothing.
func (s *Sieve) Scanner() *Scanner {
	if s.none() {
		return nil
	}
	return &Scanner{words: s.words}
}

// Feed takes a piece: the hits that end in it.
func (c *Scanner) Feed(p []byte) []api.Hit {
	if c == nil || c.words == nil {
		return nil
	}
	var hits []api.Hit
	words, state := c.words, c.state
	for i, b := range p {
		state = words.next(state, b)
		if which, ok := words.word(state); ok {
			hits = append(hits, api.Hit{At: c.at + i + 1 - words.width, Which: which})
			state = words.backs[state]
		}
	}
	c.state = state
	c.at += len(p)
	c.held = int(words.depths[state])
	return hits
}

// At is how many bytes were taken.
func (c *Scanner) At() int {
	if c == nil {
		return 0
	}
	return c.at
}

// Held is how many of the last bytes may be the first of a hit.
func (c *Scanner) Held() int {
	if c == nil {
		return 0
	}
	return c.held
}
