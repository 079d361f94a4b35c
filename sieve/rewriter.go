package sieve

import (
	"slices"
	"strings"

	"graft/api"
)

// Rewriter takes bytes piece by piece, and gives them with other texts in the patterns' places.
type Rewriter struct {
	scanner Scanner
	to      []string
	free    int                    // the place behind the last hit: another one may not begin ahead of it
	kept    [api.MaxWidth - 1]byte // the text's bytes that are held back, as many as the scanner holds
	done    bool
}

// Rewriter is one that has taken nothing.
func (s *Sieve) Rewriter(to []string) (*Rewriter, api.Errno) {
	if s.none() {
		return nil, api.OK
	}
	if len(to) != s.Len() {
		return nil, api.ErrArg
	}
	if !allOf(to, s.Width()) {
		return nil, api.ErrPattern
	}
	return &Rewriter{scanner: *s.Scanner(), to: slices.Clone(to)}, api.OK
}

// Masker is a rewriter that puts zeros.
func (s *Sieve) Masker() *Rewriter {
	zeros := strings.Repeat("\x00", s.Width())
	w, _ := s.Rewriter(slices.Repeat([]string{zeros}, s.Len()))
	return w
}

// none says whether there is no rewriter: a nil one, or one that no sieve made.
func (w *Rewriter) none() bool { return w == nil || w.scanner.words == nil && !w.done }

// Feed takes a piece, and gives what is decided by it.
func (w *Rewriter) Feed(p []byte) ([]byte, api.Errno, int) {
	if w.none() {
		return nil, api.OK, 0
	}
	if w.done {
		return nil, api.ErrDone, 0
	}
	text, _, e, at := w.take(p)
	if e != api.OK {
		return nil, e, at
	}
	n := len(text) - w.Held()
	copy(w.kept[:], text[n:])
	return text[:n:n], api.OK, 0
}

// take goes on by a piece: the text from the first byte on that was held back, and the hits that end in the piece. What of it is to be held back now, the caller keeps.
func (w *Rewriter) take(p []byte) ([]byte, []api.Hit, api.Errno, int) {
	ahead := w.scanner
	hits := w.scanner.Feed(p)
	if at, ok := w.overlap(hits); ok {
		w.finish(ahead.at, ahead.held)
		return nil, nil, api.ErrOverlap, at
	}
	text := slices.Concat(w.kept[:ahead.held], p)
	start := ahead.at - ahead.held
	for _, hit := range hits {
		copy(text[hit.At-start:], w.to[hit.Which])
		w.free = hit.At + len(w.to[hit.Which])
	}
	return text, hits, api.OK, 0
}

// overlap is the place of the first of some further hits that overlaps the one ahead of it; false if there is none.
func (w *Rewriter) overlap(hits []api.Hit) (int, bool) {
	if len(hits) > 0 && hits[0].At < w.free {
		return hits[0].At, true
	}
	if i := Overlap(hits, w.scanner.words.width); i > 0 {
		return hits[i].At, true
	}
	return 0, false
}

// finish lets all go but what At and Held are to say from now on.
func (w *Rewriter) finish(at, held int) {
	*w = Rewriter{scanner: Scanner{at: at, held: held}, done: true}
}

// Close gives what is left.
func (w *Rewriter) Close() ([]byte, api.Errno, int) {
	if w.none() {
		return nil, api.OK, 0
	}
	if w.done {
		return nil, api.ErrDone, 0
	}
	rest := make([]byte, w.Held())
	copy(rest, w.kept[:])
	w.finish(w.At(), 0)
	return rest, api.OK, 0
}

// At is how many bytes were taken.
func (w *Rewriter) At() int {
	if w == nil {
		return 0
	}
	return w.scanner.At()
}

// Held is how many bytes are held back.
func (w *Rewriter) Held() int {
	if w == nil {
		return 0
	}
	return w.scanner.Held()
}
