package sieve

import (
	"bytes"
	"slices"
	"strings"
	"testing"

	"graft/api"
)

// checkScanner feeds data by pieces that end there, and holds all that is told against the plain reading.
func checkScanner(t *testing.T, s *Sieve, p plain, data []byte, ends []int) {
	t.Helper()
	c := s.Scanner()
	if c.At() != 0 || c.Held() != 0 {
		t.Fatalf("fed nothing: At %d, Held %d", c.At(), c.Held())
	}
	all := p.scan(data)
	told, from := 0, 0
	for _, end := range ends {
		n := told
		for n < len(all) && all[n].At+p.width <= end {
			n++
		}
		piece := slices.Clone(data[from:end])
		if got := c.Feed(piece); !slices.Equal(got, all[told:n]) {
			t.Fatalf("%d patterns of %d, %q, %v, up to %d: %v, want %v", s.Len(), p.width, short(data), ends, end, got, all[told:n])
		}
		overwrite(piece)
		if c.At() != end || c.Held() != p.held(data[:end]) {
			t.Fatalf("%d patterns of %d, %q, %v, up to %d: At %d, Held %d", s.Len(), p.width, short(data), ends, end, c.At(), c.Held())
		}
		told, from = n, end
	}
}

func short(data []byte) []byte { return data[:min(len(data), 100)] }

// P5.4: every set of short patterns, all data of some length, all cuts.
func TestScannerAll(t *testing.T) {
	for width, n := range []int{0: 3, 1: 5, 2: 6, 3: 6} {
		for k, set := range allSets(width) {
			if width == 3 && k%3 != 0 {
				continue
			}
			s, p := made(t, set...), plainOf(set)
			for _, data := range allTexts(n) {
				for _, ends := range cutsOf(n) {
					checkScanner(t, s, p, []byte(data), ends)
				}
			}
		}
	}
}

// P5.4: longer patterns, and pieces of each length, empty ones too.
func TestScannerMany(t *testing.T) {
	r := sourceOf(2)
	for _, c := range []struct {
		n, width int
		letters  string
	}{{1, 1, "a"}, {20, 6, "ab"}, {300, 10, "ab"}, {100, 32, "ab"}, {1, 64, "a"}, {200, 64, "abc"}, {700, 2, "abcdefghijklmnopqrstuvwxyzABCDEFGH"}} {
		set := somePatterns(r, c.n, c.width, c.letters)
		s, p := made(t, set...), plainOf(set)
		for _, data := range [][]byte{nil, pieced(r, set, 30), someBytes(r, 300, c.letters), bytes.Repeat([]byte(set[0])[:1], 200)} {
			for _, ends := range someCuts(r, len(data)) {
				checkScanner(t, s, p, data, ends)
			}
		}
	}
}

// P5.4: Held stays below Width, behind a whole pattern too.
func TestScannerHeld(t *testing.T) {
	wide := strings.Repeat("a", api.MaxWidth)
	for _, c := range []struct {
		patterns []string
		data     string
		held     int
	}{
		{nil, "abc", 0}, {[]string{"a"}, "aaa", 0}, {[]string{"aa"}, "aa", 1}, {[]string{"aa"}, "aab", 0},
		{[]string{"ab", "bc"}, "ab", 1}, {[]string{"abab"}, "abab", 2}, {[]string{"abab"}, "aba", 3},
		{[]string{"abcd", "bcxx"}, "abc", 3}, {[]string{"abcd", "bcxx"}, "zbc", 2}, {[]string{"abcd", "bcxx"}, "abcx", 3},
		{[]string{wide}, wide, api.MaxWidth - 1}, {[]string{wide}, wide[1:], api.MaxWidth - 1}, {[]string{wide}, wide + wide, api.MaxWidth - 1},
	} {
		s := made(t, c.patterns...).Scanner()
		s.Feed([]byte(c.data))
		if s.Held() != c.held || s.At() != len(c.data) {
			t.Errorf("%q behind %q: Held %d, want %d", c.patterns, c.data, s.Held(), c.held)
		}
	}
}

// Scanners of one sieve have nothing in common.
func TestSeveralScanners(t *testing.T) {
	s := made(t, "ab", "bc", "ca")
	data := []string{"abcabcabc", "bcabcabca", "xxabxxbcx", "abcabcabc"}
	all := make([]*Scanner, len(data))
	got := make([][]api.Hit, len(data))
	for k := range all {
		all[k] = s.Scanner()
	}
	for i := range data[0] {
		for k, c := range all {
			got[k] = append(got[k], c.Feed([]byte{data[k][i]})...)
		}
	}
	for k, c := range all {
		checkHits(t, data[k], got[k], s.Scan([]byte(data[k])))
		if c.At() != len(data[k]) {
			t.Errorf("At %d", c.At())
		}
	}
}

// What one Feed handed out shows in no other.
func TestScannerHandedOut(t *testing.T) {
	c := made(t, "a").Scanner()
	var lists [][]api.Hit
	for i := range 5 {
		l := c.Feed([]byte("aaa"))
		checkHits(t, "Feed", l, []api.Hit{{At: 3 * i}, {At: 3*i + 1}, {At: 3*i + 2}})
		l = append(l, api.Hit{At: -1})
		lists = append(lists, l)
	}
	for i, l := range lists {
		checkHits(t, "later", l, []api.Hit{{At: 3 * i}, {At: 3*i + 1}, {At: 3*i + 2}, {At: -1}})
	}
}

// P5.9.
func TestNilScanner(t *testing.T) {
	for _, c := range []*Scanner{nil, {}} { // one that no sieve made finds nothing either
		for range 2 {
			if hits := c.Feed([]byte("abc")); len(hits) != 0 || c.At() != 0 || c.Held() != 0 {
				t.Errorf("a nil Scanner: %v, At %d, Held %d", hits, c.At(), c.Held())
			}
		}
	}
}
