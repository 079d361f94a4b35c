package sieve

import (
	"math/rand/v2"
	"slices"
	"strings"
	"testing"

	"graft/api"
)

// plain reads the chapter's words one by one, with no automaton.
type plain struct {
	width  int
	words  map[string]int
	begins map[string]bool // the first bytes of the patterns, fewer than Width
}

func plainOf(patterns []string) plain {
	p := plain{words: map[string]int{}, begins: map[string]bool{}}
	for i, text := range patterns {
		p.width = len(text)
		p.words[text] = i
		for k := range text {
			p.begins[text[:k]] = true
		}
	}
	return p
}

func (p plain) scan(data []byte) []api.Hit {
	var out []api.Hit
	for at := 0; p.width > 0 && at+p.width <= len(data); at++ {
		if which, ok := p.words[string(data[at:at+p.width])]; ok {
			out = append(out, api.Hit{At: at, Which: which})
		}
	}
	return out
}

func (p plain) held(data []byte) int {
	for k := min(p.width-1, len(data)); k > 0; k-- {
		if p.begins[string(data[len(data)-k:])] {
			return k
		}
	}
	return 0
}

// clash is the place of the second hit of the first pair that overlaps; -1 if there is none.
func (p plain) clash(hits []api.Hit) int {
	for i := 1; i < len(hits); i++ {
		if hits[i].At-hits[i-1].At < p.width {
			return hits[i].At
		}
	}
	return -1
}

func plainText(data []byte, hits []api.Hit, to []string) []byte {
	text := slices.Clone(data)
	for _, h := range hits {
		copy(text[h.At:h.At+len(to[h.Which])], to[h.Which])
	}
	return text
}

// plainRewriter keeps all that it was fed, and reads it anew by each call.
type plainRewriter struct {
	plain
	to   []string
	fed  []byte
	put  int
	held int
	done bool
}

func (w *plainRewriter) feed(p []byte) ([]byte, api.Errno, int) {
	if w.done {
		return nil, api.ErrDone, 0
	}
	fed := slices.Concat(w.fed, p)
	hits := w.scan(fed)
	if at := w.clash(hits); at >= 0 {
		w.done = true
		return nil, api.ErrOverlap, at
	}
	w.fed = fed
	w.held = w.plain.held(fed)
	out := plainText(fed, hits, w.to)[w.put : len(fed)-w.held]
	w.put += len(out)
	return out, api.OK, 0
}

func (w *plainRewriter) close() ([]byte, api.Errno, int) {
	if w.done {
		return nil, api.ErrDone, 0
	}
	w.done, w.held = true, 0
	return plainText(w.fed, w.scan(w.fed), w.to)[w.put:], api.OK, 0
}

// made is a sieve of patterns that may be.
func made(t testing.TB, patterns ...string) *Sieve {
	t.Helper()
	s, e := New(patterns)
	if e != api.OK || s == nil {
		t.Fatalf("New of %d patterns: %d", len(patterns), e)
	}
	return s
}

func rewriterOf(t testing.TB, s *Sieve, to ...string) *Rewriter {
	t.Helper()
	w, e := s.Rewriter(to)
	if e != api.OK || w == nil {
		t.Fatalf("Rewriter(%q): %d", to, e)
	}
	return w
}

// checkBytes holds an answer of a Rewriter against what it must be.
func checkBytes(t testing.TB, what string, out []byte, e api.Errno, at int, wantOut string, wantE api.Errno, wantAt int) {
	t.Helper()
	if string(out) != wantOut || e != wantE || at != wantAt {
		t.Errorf("%s: %q, %d, %d, want %q, %d, %d", what, out, e, at, wantOut, wantE, wantAt)
	}
}

func checkHits(t testing.TB, what string, got, want []api.Hit) {
	t.Helper()
	if !slices.Equal(got, want) {
		t.Errorf("%s: %v, want %v", what, got, want)
	}
}

func sourceOf(seed uint64) *rand.Rand { return rand.New(rand.NewPCG(seed, 5)) }

// someBytes is n bytes out of letters.
func someBytes(r *rand.Rand, n int, letters string) []byte {
	out := make([]byte, n)
	for i := range out {
		out[i] = letters[r.IntN(len(letters))]
	}
	return out
}

// somePatterns is at most n unlike patterns out of letters.
func somePatterns(r *rand.Rand, n, width int, letters string) []string {
	var out []string
	seen := map[string]bool{}
	for range n {
		text := string(someBytes(r, width, letters))
		if !seen[text] {
			seen[text] = true
			out = append(out, text)
		}
	}
	return out
}

// allTexts is every text of a length out of a and b.
func allTexts(width int) []string {
	out := []string{""}
	for range width {
		var longer []string
		for _, text := range out {
			longer = append(longer, text+"a", text+"b")
		}
		out = longer
	}
	return out
}

// allSets is every set of patterns of a length out of a and b, the fullest in falling order, so that numbers and order differ.
func allSets(width int) [][]string {
	if width == 0 {
		return [][]string{nil}
	}
	texts := allTexts(width)
	slices.Reverse(texts)
	var out [][]string
	for bits := range 1 << len(texts) {
		var set []string
		for i, text := range texts {
			if bits>>i&1 == 1 {
				set = append(set, text)
			}
		}
		out = append(out, set)
	}
	return out
}

// cutsOf is every way to cut n bytes into pieces that are not empty, as their ends.
func cutsOf(n int) [][]int {
	var out [][]int
	for bits := range 1 << max(n-1, 0) {
		var ends []int
		for i := 1; i <= n; i++ {
			if i == n || bits>>(i-1)&1 == 1 {
				ends = append(ends, i)
			}
		}
		out = append(out, ends)
	}
	return out
}

// someCuts is cuts of longer data: into pieces of each of some lengths, of unlike ones, and with empty ones between.
func someCuts(r *rand.Rand, n int) [][]int {
	var out [][]int
	for _, length := range []int{1, 2, 3, 5, 31, 32, 33, 63, 64, 65, n/2 + 1, n + 1} {
		var ends []int
		for at := length; at < n; at += length {
			ends = append(ends, at)
		}
		out = append(out, append(ends, n))
	}
	for range 4 {
		var ends []int
		for at := 0; at < n; at += r.IntN(9) {
			ends = append(ends, at)
		}
		out = append(out, append(ends, n))
	}
	return out
}

// numbersAsText is n unlike texts of a width.
func numbersAsText(n, width int) []string {
	out := make([]string, n)
	for i := range out {
		out[i] = strings.Repeat("z", width-2) + string([]byte{byte(i), byte(i >> 8)})
	}
	return out
}
