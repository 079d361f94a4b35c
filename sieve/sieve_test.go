package sieve

import (
	"bytes"
	"reflect"
	"slices"
	"strings"
	"testing"

	"graft/api"
)

// P5.1, the errors in their order.
func TestNew(t *testing.T) {
	full := numbersAsText(api.MaxPatterns, 2)
	more := numbersAsText(api.MaxPatterns+1, 2)
	changed := func(texts []string, i int, text string) []string {
		texts = slices.Clone(texts)
		texts[i] = text
		return texts
	}
	long := strings.Repeat("w", api.MaxWidth)
	for _, c := range []struct {
		what     string
		patterns []string
		e        api.Errno
	}{
		{"none", nil, api.OK},
		{"none", []string{}, api.OK},
		{"one", []string{"a"}, api.OK},
		{"any bytes", []string{"\x00\xff", "\xff\x00", "\x00\x00", "\xff\xff", "é"}, api.OK},
		{"the widest", []string{long, long[1:] + "x"}, api.OK},
		{"as many as may be", full, api.OK},
		{"one more", more, api.ErrLong},
		{"one more, one of them empty", changed(more, 0, ""), api.ErrLong},
		{"one more, the last of another length", changed(more, len(more)-1, "abc"), api.ErrLong},
		{"one more, all equal", slices.Repeat([]string{"a"}, api.MaxPatterns+1), api.ErrLong},
		{"one more, all empty", make([]string, api.MaxPatterns+1), api.ErrLong},
		{"an empty one", []string{""}, api.ErrPattern},
		{"two empty ones", []string{"", ""}, api.ErrPattern},
		{"an empty one first", []string{"", "a"}, api.ErrPattern},
		{"an empty one last", []string{"a", ""}, api.ErrPattern},
		{"too wide", []string{long + "w"}, api.ErrPattern},
		{"too wide, and equal", []string{long + "w", long + "w"}, api.ErrPattern},
		{"the second too wide", []string{long, long + "w"}, api.ErrPattern},
		{"a longer one", []string{"a", "bb"}, api.ErrPattern},
		{"a shorter one", []string{"aa", "b"}, api.ErrPattern},
		{"the last of all longer", changed(full, len(full)-1, "abc"), api.ErrPattern},
		{"equal ones ahead of a longer one", []string{"a", "a", "bb"}, api.ErrPattern},
		{"equal ones behind a longer one", []string{"bb", "a", "a"}, api.ErrPattern},
		{"equal", []string{"a", "a"}, api.ErrTwice},
		{"equal, others between", []string{"ab", "xy", "aa", "cd", "ab"}, api.ErrTwice},
		{"the first and the last of all equal", changed(full, len(full)-1, full[0]), api.ErrTwice},
		{"all equal", slices.Repeat([]string{"a"}, api.MaxPatterns), api.ErrTwice},
		{"equal, the widest", []string{long, long}, api.ErrTwice},
	} {
		s, e := New(c.patterns)
		if e != c.e || (s == nil) != (e != api.OK) {
			t.Errorf("%s: %v, %d, want %d", c.what, s != nil, e, c.e)
			continue
		}
		n, width := 0, 0
		if e == api.OK && len(c.patterns) > 0 {
			n, width = len(c.patterns), len(c.patterns[0])
		}
		if s.Len() != n || s.Width() != width {
			t.Errorf("%s: Len %d, Width %d", c.what, s.Len(), s.Width())
		}
	}
}

// The chapter's examples 1, 2, and 5 to 8.
func TestExamples(t *testing.T) {
	s := made(t, "ab", "bc")
	hits := s.Scan([]byte("abcab"))
	checkHits(t, "1", hits, []api.Hit{{At: 0, Which: 0}, {At: 1, Which: 1}, {At: 3, Which: 0}})
	if i := Overlap(hits, 2); i != 1 {
		t.Errorf("1: Overlap %d", i)
	}
	to := []string{"01", "23"}
	out, e, at := s.Rewrite([]byte("abxbc"), to)
	checkBytes(t, "2", out, e, at, "01x23", api.OK, 0)
	out, e, at = s.Rewrite([]byte("xabc"), to)
	checkBytes(t, "2, overlap", out, e, at, "", api.ErrOverlap, 2)

	same := made(t, "aa")
	checkHits(t, "5", same.Scan([]byte("aaa")), []api.Hit{{At: 0}, {At: 1}})
	out, e, at = same.Rewrite([]byte("aaa"), []string{"bb"})
	checkBytes(t, "5, overlap", out, e, at, "", api.ErrOverlap, 1)
	out, e, at = same.Rewrite([]byte("aaxaa"), []string{"bb"})
	checkBytes(t, "5", out, e, at, "bbxbb", api.OK, 0)

	for _, c := range []struct {
		patterns []string
		e        api.Errno
	}{{[]string{"a", "aa"}, api.ErrPattern}, {[]string{"a", "a"}, api.ErrTwice}, {[]string{""}, api.ErrPattern}} {
		if s, e := New(c.patterns); s != nil || e != c.e {
			t.Errorf("6: %q: %d", c.patterns, e)
		}
	}
	out, e, at = made(t).Rewrite([]byte("abc"), nil)
	checkBytes(t, "6, none", out, e, at, "abc", api.OK, 0)

	out, hits, e, at = s.Mask([]byte("xaby"))
	checkBytes(t, "7", out, e, at, "x\x00\x00y", api.OK, 0)
	checkHits(t, "7", hits, []api.Hit{{At: 1}})

	for _, c := range []struct {
		to []string
		e  api.Errno
	}{{[]string{"0"}, api.ErrArg}, {[]string{"0", "12"}, api.ErrPattern}} {
		if w, e := s.Rewriter(c.to); w != nil || e != c.e {
			t.Errorf("8: %q: %d", c.to, e)
		}
	}
}

// P5.2: every set of short patterns, and all data up to some length.
func TestScanAll(t *testing.T) {
	for width, most := range []int{0: 3, 1: 8, 2: 9, 3: 7} {
		for _, set := range allSets(width) {
			s, p := made(t, set...), plainOf(set)
			for n := range most + 1 {
				for _, data := range allTexts(n) {
					if got, want := s.Scan([]byte(data)), p.scan([]byte(data)); !slices.Equal(got, want) {
						t.Fatalf("%q in %q: %v, want %v", set, data, got, want)
					}
				}
			}
		}
	}
}

// P5.2: longer patterns, more of them, all bytes; data that is made of patterns, of their pieces, and of anything.
func TestScanMany(t *testing.T) {
	every := make([]byte, 256)
	for i := range every {
		every[i] = byte(i)
	}
	r := sourceOf(1)
	for _, c := range []struct {
		n, width int
		letters  string
	}{
		{1, 1, "a"}, {256, 1, string(every)}, {9, 4, "ab"}, {40, 7, "ab"}, {500, 12, "ab"}, {64, 32, "ab"}, {4096, 13, "ab"}, {300, 3, "abc"},
		{4096, 3, string(every)}, {4096, 2, string(every)}, {300, 32, "0123456789abcdfghijklmnpqrsvwxyz"}, {4096, 64, "ab"}, {4096, 64, string(every)}, {2, 64, "a"},
	} {
		set := somePatterns(r, c.n, c.width, c.letters)
		s, p := made(t, set...), plainOf(set)
		data := [][]byte{nil, []byte(set[0]), []byte(set[0])[1:], bytes.Repeat([]byte(set[0])[:1], 300), someBytes(r, 5000, c.letters), pieced(r, set, 200)}
		for k, d := range data {
			if got, want := s.Scan(d), p.scan(d); !slices.Equal(got, want) {
				t.Errorf("%d patterns of %d, data %d: %d hits, want %d", len(set), c.width, k, len(got), len(want))
			}
		}
		if len(s.Scan(data[5])) == 0 {
			t.Errorf("%d patterns of %d: nothing to find", len(set), c.width)
		}
	}
}

// pieced is data out of n patterns, whole ones, beginnings and ends.
func pieced(r interface{ IntN(int) int }, set []string, n int) []byte {
	var out []byte
	for range n {
		text := set[r.IntN(len(set))]
		switch r.IntN(4) {
		case 0:
			text = text[:r.IntN(len(text)+1)]
		case 1:
			text = text[r.IntN(len(text)+1):]
		}
		out = append(out, text...)
	}
	return out
}

// P5.2: the edges: the first place and the last, shorter data, hits that touch and that overlap.
func TestScanEdges(t *testing.T) {
	s := made(t, "abc", "bcd", "cab")
	for _, c := range []struct {
		data string
		hits []api.Hit
	}{
		{"", nil}, {"ab", nil}, {"abd", nil}, {"aab", nil},
		{"abc", []api.Hit{{At: 0}}},
		{"abcabc", []api.Hit{{At: 0}, {At: 2, Which: 2}, {At: 3}}},
		{"abcd", []api.Hit{{At: 0}, {At: 1, Which: 1}}},
		{"xxabc", []api.Hit{{At: 2}}},
		{"bcdabcxcab", []api.Hit{{At: 0, Which: 1}, {At: 3}, {At: 7, Which: 2}}},
	} {
		checkHits(t, c.data, s.Scan([]byte(c.data)), c.hits)
	}
	if hits := made(t).Scan([]byte("abc")); len(hits) != 0 {
		t.Errorf("no patterns: %v", hits)
	}
	wide := strings.Repeat("a", api.MaxWidth)
	if hits := made(t, wide).Scan([]byte(wide[1:])); len(hits) != 0 {
		t.Errorf("one byte short: %v", hits)
	}
	hits := made(t, wide).Scan(bytes.Repeat([]byte("a"), 1000))
	if len(hits) != 1000-api.MaxWidth+1 || hits[0].At != 0 || hits[len(hits)-1].At != 1000-api.MaxWidth {
		t.Errorf("one byte again and again: %d hits", len(hits))
	}
}

// P5.8: Rewrite and Mask are what a Rewriter puts out that is fed all and closed.
func TestRewriteAndMask(t *testing.T) {
	for width, most := range []int{0: 3, 1: 7, 2: 8, 3: 7} {
		for _, set := range allSets(width) {
			s, p := made(t, set...), plainOf(set)
			to := slices.Clone(set)
			slices.Reverse(to)
			zeros := slices.Repeat([]string{strings.Repeat("\x00", width)}, len(set))
			for _, data := range allTexts(most) {
				checkWhole(t, s, p, to, zeros, []byte(data))
			}
		}
	}
}

func checkWhole(t *testing.T, s *Sieve, p plain, to, zeros []string, data []byte) {
	t.Helper()
	hits := p.scan(data)
	out, e, at := s.Rewrite(data, to)
	masked, found, maskE, maskAt := s.Mask(data)
	if clash := p.clash(hits); clash >= 0 {
		checkBytes(t, "Rewrite", out, e, at, "", api.ErrOverlap, clash)
		checkBytes(t, "Mask", masked, maskE, maskAt, "", api.ErrOverlap, clash)
		checkHits(t, "Mask", found, nil)
		return
	}
	checkBytes(t, "Rewrite", out, e, at, string(plainText(data, hits, to)), api.OK, 0)
	checkBytes(t, "Mask", masked, maskE, maskAt, string(plainText(data, hits, zeros)), api.OK, 0)
	checkHits(t, "Mask", found, hits)
}

// P5.8: wrong inputs, the first told; and whole archives.
func TestRewriteErrors(t *testing.T) {
	s := made(t, "ab", "bc")
	for _, c := range []struct {
		data string
		to   []string
		e    api.Errno
		at   int
	}{
		{"abc", nil, api.ErrArg, 0},
		{"abc", []string{"01"}, api.ErrArg, 0},
		{"abc", []string{"01", "23", "45"}, api.ErrArg, 0},
		{"abc", []string{"0", "1", "2"}, api.ErrArg, 0},
		{"abc", []string{"01", "2"}, api.ErrPattern, 0},
		{"abc", []string{"012", "23"}, api.ErrPattern, 0},
		{"abc", []string{"", ""}, api.ErrPattern, 0},
		{"abc", []string{"01", "23"}, api.ErrOverlap, 1},
		{"abxabcbc", []string{"01", "23"}, api.ErrOverlap, 4},
	} {
		out, e, at := s.Rewrite([]byte(c.data), c.to)
		checkBytes(t, c.data, out, e, at, "", c.e, c.at)
	}
	out, e, at := s.Rewrite(nil, []string{"01", "23"})
	checkBytes(t, "no data", out, e, at, "", api.OK, 0)
	out, e, at = made(t).Rewrite([]byte("abc"), []string{""})
	checkBytes(t, "no patterns", out, e, at, "", api.ErrArg, 0)
	out, hits, e, at := made(t).Mask([]byte("abc"))
	checkBytes(t, "no patterns", out, e, at, "abc", api.OK, 0)
	checkHits(t, "no patterns", hits, nil)
}

// A whole archive's size, the most patterns of the greatest width, and data in which the search falls back as often as it can.
func TestGreat(t *testing.T) {
	var set []string
	for i := range api.MaxPatterns {
		text := bytes.Repeat([]byte("a"), api.MaxWidth)
		text[i%api.MaxWidth] = 'b'
		text[i/api.MaxWidth] = 'c'
		set = append(set, string(text))
	}
	slices.Sort(set)
	set = slices.Compact(set)
	s, p := made(t, set...), plainOf(set)
	r := sourceOf(3)
	data := bytes.Repeat([]byte("a"), api.MaxArk)
	for at := 0; at < len(data); at += 1 + r.IntN(70) {
		data[at] = "bc"[r.IntN(2)]
	}
	hits := p.scan(data)
	if len(hits) < 1000 {
		t.Fatalf("only %d hits", len(hits))
	}
	checkHitsShort(t, s.Scan(data), hits)
	out, e, at := s.Rewrite(data, set)
	checkBytes(t, "overlaps", out, e, at, "", api.ErrOverlap, p.clash(hits))
	most := numbersAsText(api.MaxPatterns, api.MaxWidth)
	whole := []byte(strings.Join(slices.Repeat(most, 4), ""))
	masked, found, e, _ := made(t, most...).Mask(whole)
	if e != api.OK || len(found) != 4*len(most) || !bytes.Equal(masked, make([]byte, len(whole))) {
		t.Errorf("all patterns four times: %d, %d hits", e, len(found))
	}
}

func checkHitsShort(t *testing.T, got, want []api.Hit) {
	t.Helper()
	if !slices.Equal(got, want) {
		t.Errorf("%d hits, want %d", len(got), len(want))
	}
}

// P5.9.
func TestNilSieve(t *testing.T) {
	for _, s := range []*Sieve{nil, {}} { // one that New did not make is no sieve either
		if s.Len() != 0 || s.Width() != 0 || len(s.Scan([]byte("abc"))) != 0 || s.Scanner() != nil || s.Masker() != nil {
			t.Error("a nil Sieve has something")
		}
		for _, to := range [][]string{nil, {"a"}, {"", "a"}} {
			if w, e := s.Rewriter(to); w != nil || e != api.OK {
				t.Errorf("Rewriter(%q): %d", to, e)
			}
			out, e, at := s.Rewrite([]byte("abc"), to)
			checkBytes(t, "Rewrite", out, e, at, "", api.OK, 0)
		}
		out, hits, e, at := s.Mask([]byte("abc"))
		checkBytes(t, "Mask", out, e, at, "", api.OK, 0)
		checkHits(t, "Mask", hits, nil)
	}
}

// P5.10, what follows of Rewrite. (Of Held and At: see the tests of Rewriters.)
func TestFollows(t *testing.T) {
	back, lost := 0, 0
	for width := 1; width <= 3; width++ {
		sets := allSets(width)
		for k, set := range sets {
			s := made(t, set...)
			for _, data := range allTexts(7) {
				out, e, _ := s.Rewrite([]byte(data), set)
				if e != api.OK {
					continue
				}
				if string(out) != data {
					t.Fatalf("%q by themselves: %q becomes %q", set, data, out)
				}
				to := sets[len(sets)-1-k]
				if len(to) < len(set) {
					continue
				}
				if rewrittenBack(t, s, made(t, to[:len(set)]...), data, to[:len(set)]) {
					back++
				} else {
					lost++
				}
			}
		}
	}
	if back == 0 || lost == 0 {
		t.Errorf("%d came back, %d had no need to", back, lost)
	}
}

// rewrittenBack rewrites there and back; false if the premise does not hold.
func rewrittenBack(t *testing.T, s, other *Sieve, data string, to []string) bool {
	t.Helper()
	hits := s.Scan([]byte(data))
	out, _, _ := s.Rewrite([]byte(data), to)
	covered := map[int]bool{}
	for _, h := range hits {
		for i := range s.Width() {
			covered[h.At+i] = true
		}
	}
	for i := range data {
		if !covered[i] && out[i] != data[i] {
			t.Fatalf("%q: %q has another byte at %d, which no hit covers", data, out, i)
		}
	}
	if !slices.Equal(other.Scan(out), hits) {
		return false
	}
	var from []string
	for which := range to {
		from = append(from, patternOf(s, which))
	}
	again, e, _ := other.Rewrite(out, from)
	if e != api.OK || string(again) != data {
		t.Fatalf("%q there and back: %q, %d", data, again, e)
	}
	return true
}

// patternOf reads a pattern off the sieve: of all texts out of a and b the one of that number.
func patternOf(s *Sieve, which int) string {
	for _, text := range allTexts(s.Width()) {
		if hits := s.Scan([]byte(text)); len(hits) > 0 && hits[0].Which == which {
			return text
		}
	}
	return ""
}

// What is handed in is not changed, its spare room neither, and not kept.
func TestHandedIn(t *testing.T) {
	patterns := []string{"ab", "bc", "room"}
	to := []string{"01", "23", "room"}
	data := []byte("xabxbcroom")
	s := made(t, patterns[:2]...)
	w := rewriterOf(t, s, to[:2]...)
	v, _ := s.Rewriter(to[:2])
	out, _, _ := s.Rewrite(data[:6], to[:2])
	masked, _, _, _ := s.Mask(data[:6])
	s.Scan(data[:6])
	if string(data) != "xabxbcroom" || !slices.Equal(patterns, []string{"ab", "bc", "room"}) || !slices.Equal(to, []string{"01", "23", "room"}) {
		t.Errorf("changed: %q, %q, %q", data, patterns, to)
	}
	patterns[0], patterns[1], to[0], to[1] = "xy", "", "", "longer"
	copy(data, "??????")
	checkHits(t, "patterns that changed", s.Scan([]byte("abc")), []api.Hit{{At: 0}, {At: 1, Which: 1}})
	for _, w := range []*Rewriter{w, v} {
		b, e, at := w.Feed([]byte("abxbcx"))
		checkBytes(t, "replacements that changed", b, e, at, "01x23x", api.OK, 0)
	}
	if string(out) != "x01x23" || string(masked) != "x\x00\x00x\x00\x00" {
		t.Errorf("an answer changed with the data: %q, %q", out, masked)
	}
}

// Each list that is handed out is new memory, its spare room too.
func TestHandedOut(t *testing.T) {
	s := made(t, "ab", "bc")
	data := []byte("xabxbcab")
	for range 3 {
		hits := s.Scan(data)
		out, e, at := s.Rewrite(data, []string{"01", "23"})
		masked, found, _, _ := s.Mask(data)
		checkBytes(t, "Rewrite", out, e, at, "x01x2301", api.OK, 0)
		for _, l := range [][]api.Hit{hits, found} {
			checkHits(t, "hits", l, []api.Hit{{At: 1}, {At: 4, Which: 1}, {At: 6}})
			l = l[:cap(l)]
			for i := range l {
				l[i] = api.Hit{At: -7, Which: -7}
			}
		}
		overwrite(out)
		checkBytes(t, "Mask", masked, api.OK, 0, "x\x00\x00x\x00\x00\x00\x00", api.OK, 0)
		overwrite(masked)
	}
	if string(data) != "xabxbcab" {
		t.Errorf("an answer shares the data's memory: %q", data)
	}
	none := made(t)
	same, _, _ := none.Rewrite(data, nil)
	overwrite(same)
	if string(data) != "xabxbcab" {
		t.Errorf("without patterns an answer shares the data's memory: %q", data)
	}
}

// overwrite writes over all of a list, and over the room behind it.
func overwrite(b []byte) {
	b = b[:cap(b)]
	for i := range b {
		b[i] = '!'
	}
}

// A sieve is never changed; two that were made alike answer alike.
func TestSieveStays(t *testing.T) {
	set := somePatterns(sourceOf(9), 300, 5, "abc")
	s, like := made(t, set...), made(t, set...)
	data := pieced(sourceOf(10), set, 300)
	s.Scan(data)
	s.Rewrite(data, set)
	s.Mask(data)
	s.Rewriter(nil)
	for i := range data {
		s.Scanner().Feed(data[i : i+1])
		w := s.Masker()
		w.Feed(data[i:])
		w.Close()
	}
	if !reflect.DeepEqual(s, like) {
		t.Error("a sieve changed")
	}
	checkHitsShort(t, s.Scan(data), like.Scan(data))
}
