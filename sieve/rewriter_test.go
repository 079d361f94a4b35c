package sieve

import (
	"bytes"
	"reflect"
	"slices"
	"strings"
	"testing"

	"graft/api"
)

// checkRewriter feeds data by pieces that end there, closes, and asks once more, and holds all that is told against the plain reading.
func checkRewriter(t *testing.T, w *Rewriter, p plain, to []string, data []byte, ends []int) {
	t.Helper()
	model := &plainRewriter{plain: p, to: to}
	from, put := 0, 0
	same := func(what string, out []byte, e api.Errno, at int, wantOut []byte, wantE api.Errno, wantAt int) {
		t.Helper()
		if !bytes.Equal(out, wantOut) || e != wantE || at != wantAt || w.At() != len(model.fed) || w.Held() != model.held {
			t.Fatalf("%d patterns of %d, %q, %v, %s behind %d: %q, %d, %d, At %d, Held %d, want %q, %d, %d, At %d, Held %d",
				len(to), p.width, short(data), ends, what, from, out, e, at, w.At(), w.Held(), wantOut, wantE, wantAt, len(model.fed), model.held)
		}
	}
	for _, end := range ends {
		wantOut, wantE, wantAt := model.feed(data[from:end])
		piece := slices.Clone(data[from:end])
		out, e, at := w.Feed(piece)
		same("Feed", out, e, at, wantOut, wantE, wantAt)
		put += len(out)
		overwrite(piece)
		overwrite(out)
		if !model.done && (put+w.Held() != w.At() || w.Held() > max(p.width-1, 0)) { // P5.10
			t.Fatalf("%d put out, Held %d, At %d, Width %d", put, w.Held(), w.At(), p.width)
		}
		from = end
	}
	wantOut, wantE, wantAt := model.close()
	out, e, at := w.Close()
	same("Close", out, e, at, wantOut, wantE, wantAt)
	overwrite(out)
	for _, piece := range []string{"", "a", strings.Repeat("ab", 70)} {
		out, e, at := w.Feed([]byte(piece))
		same("Feed when done", out, e, at, nil, api.ErrDone, 0)
		out, e, at = w.Close()
		same("Close when done", out, e, at, nil, api.ErrDone, 0)
	}
}

// P5.6 and P5.7: every set of short patterns, all data of some length, all cuts.
func TestRewriterAll(t *testing.T) {
	for width, n := range []int{0: 3, 1: 5, 2: 6, 3: 6} {
		for k, set := range allSets(width) {
			if width == 3 && k%5 != 0 {
				continue
			}
			s, p := made(t, set...), plainOf(set)
			to := slices.Clone(set) // replacements that are patterns themselves
			slices.Reverse(to)
			for _, data := range allTexts(n) {
				for _, ends := range cutsOf(n) {
					checkRewriter(t, rewriterOf(t, s, to...), p, to, []byte(data), ends)
				}
			}
		}
	}
}

// P5.6 and P5.7: longer patterns, and pieces of each length, empty ones too.
func TestRewriterMany(t *testing.T) {
	r := sourceOf(4)
	whole := 0
	for _, c := range []struct {
		n, width int
		letters  string
	}{{1, 1, "a"}, {3, 6, "ab"}, {20, 10, "ab"}, {100, 32, "ab"}, {1, 64, "a"}, {50, 64, "abc"}, {300, 8, "abcdefgh"}} {
		set := somePatterns(r, c.n, c.width, c.letters)
		s, p := made(t, set...), plainOf(set)
		to := somePatternsTwice(set)
		zeros := slices.Repeat([]string{strings.Repeat("\x00", c.width)}, len(set))
		for _, data := range [][]byte{nil, pieced(r, set, 20), apart(r, set, 20), someBytes(r, 300, c.letters), bytes.Repeat([]byte(set[0])[:1], 200)} {
			if p.clash(p.scan(data)) < 0 && len(p.scan(data)) > 3 {
				whole++
			}
			for _, ends := range someCuts(r, len(data)) {
				checkRewriter(t, rewriterOf(t, s, to...), p, to, data, ends)
				checkRewriter(t, s.Masker(), p, zeros, data, ends)
			}
		}
	}
	if whole < 5 {
		t.Errorf("only %d texts have hits that do not overlap", whole)
	}
}

// somePatternsTwice is replacements of which the first two are equal, and all are patterns.
func somePatternsTwice(set []string) []string {
	to := slices.Clone(set)
	slices.Reverse(to)
	if len(to) > 1 {
		to[1] = to[0]
	}
	return to
}

// apart is n patterns, whole, touching one another or with other bytes between them.
func apart(r interface{ IntN(int) int }, set []string, n int) []byte {
	var out []byte
	for range n {
		out = append(out, set[r.IntN(len(set))]...)
		out = append(out, strings.Repeat("-", r.IntN(3))...)
	}
	return out
}

// P5.5.
func TestNewRewriter(t *testing.T) {
	wide := strings.Repeat("w", api.MaxWidth)
	for _, c := range []struct {
		patterns, to []string
		e            api.Errno
	}{
		{nil, nil, api.OK}, {nil, []string{}, api.OK}, {nil, []string{""}, api.ErrArg},
		{[]string{"ab"}, []string{"ab"}, api.OK}, {[]string{"ab"}, []string{"\x00\xff"}, api.OK},
		{[]string{"ab"}, nil, api.ErrArg}, {[]string{"ab"}, []string{"01", "23"}, api.ErrArg}, {[]string{"ab"}, []string{"0", "1"}, api.ErrArg},
		{[]string{"ab"}, []string{""}, api.ErrPattern}, {[]string{"ab"}, []string{"0"}, api.ErrPattern}, {[]string{"ab"}, []string{"012"}, api.ErrPattern},
		{[]string{"ab", "bc"}, []string{"01", "01"}, api.OK}, {[]string{"ab", "bc"}, []string{"01", "0"}, api.ErrPattern}, {[]string{"ab", "bc"}, []string{"0", "01"}, api.ErrPattern},
		{[]string{wide}, []string{wide[1:] + "x"}, api.OK}, {[]string{wide}, []string{wide + "w"}, api.ErrPattern},
	} {
		s := made(t, c.patterns...)
		if w, e := s.Rewriter(c.to); e != c.e || (w == nil) != (e != api.OK) {
			t.Errorf("%q to %q: %v, %d, want %d", c.patterns, c.to, w != nil, e, c.e)
		}
	}
	most := numbersAsText(api.MaxPatterns, 2)
	s := made(t, most...)
	for _, to := range [][]string{most[1:], append(slices.Clone(most), "zz")} {
		if w, e := s.Rewriter(to); w != nil || e != api.ErrArg {
			t.Errorf("%d replacements: %d", len(to), e)
		}
	}
	if w, e := s.Rewriter(most); w == nil || e != api.OK || w.At() != 0 || w.Held() != 0 {
		t.Errorf("as many as may be: %d", e)
	}
}

// The chapter's examples 3, 4, 9 and 10.
func TestRewriterExamples(t *testing.T) {
	s := made(t, "ab", "bc")
	w := rewriterOf(t, s, "01", "23")
	for _, c := range []struct {
		in, out string
		held    int
	}{{"a", "", 1}, {"b", "0", 1}, {"x", "1x", 0}} {
		out, e, at := w.Feed([]byte(c.in))
		checkBytes(t, "3: "+c.in, out, e, at, c.out, api.OK, 0)
		if w.Held() != c.held {
			t.Errorf("3: Held %d behind %q", w.Held(), c.in)
		}
	}
	w = rewriterOf(t, s, "01", "23")
	out, e, at := w.Feed([]byte("ab"))
	checkBytes(t, "4", out, e, at, "0", api.OK, 0)
	for _, nothing := range [][]byte{nil, {}} {
		out, e, at = w.Feed(nothing)
		checkBytes(t, "10", out, e, at, "", api.OK, 0)
		if w.At() != 2 || w.Held() != 1 {
			t.Errorf("10: At %d, Held %d", w.At(), w.Held())
		}
	}
	out, e, at = w.Close()
	checkBytes(t, "4: Close", out, e, at, "1", api.OK, 0)
	out, e, at = w.Feed(nil)
	checkBytes(t, "9", out, e, at, "", api.ErrDone, 0)
	if w.At() != 2 || w.Held() != 0 {
		t.Errorf("9: At %d, Held %d", w.At(), w.Held())
	}
}

// P5.7: overlaps by one byte and by all but one, hits that touch; the second one in the same piece or in another, with much ahead of it.
func TestRewriterOverlaps(t *testing.T) {
	for _, width := range []int{3, 32, api.MaxWidth} { // of two bytes: see the tests of all short patterns
		first := "a" + strings.Repeat("x", width-2) + "b"
		byOne := "b" + strings.Repeat("y", width-2) + "a"
		byMost := first[1:] + "z"
		set := []string{first, byOne, byMost}
		to := slices.Repeat([]string{strings.Repeat("0", width)}, len(set))
		s, p := made(t, set...), plainOf(set)
		for _, c := range []struct {
			data string
			at   int // of the second one; -1 if they do not overlap
		}{
			{"--" + first + byOne[1:], 2 + width - 1},
			{"--" + first + "z", 3},
			{first + first + first, -1},
			{first + first + "z", width + 1},
			{first + "-" + byOne + byOne[1:] + "-", -1},
			{first + "-" + byOne + first[1:] + byOne[1:], 2 * width},
		} {
			if at := p.clash(p.scan([]byte(c.data))); at != c.at {
				t.Fatalf("%q overlaps at %d, not at %d", c.data, at, c.at)
			}
			for cut := range len(c.data) + 1 {
				checkRewriter(t, rewriterOf(t, s, to...), p, to, []byte(c.data), []int{cut, len(c.data)})
			}
			out, e, at := s.Rewrite([]byte(c.data), to)
			if c.at >= 0 {
				checkBytes(t, c.data, out, e, at, "", api.ErrOverlap, c.at)
			} else if e != api.OK || at != 0 || len(out) != len(c.data) {
				t.Errorf("%q: %q, %d, %d", c.data, out, e, at)
			}
		}
	}
}

// P5.7: a broken one says what it said ahead of the Feed that broke it; what it had put out stands.
func TestBroken(t *testing.T) {
	s := made(t, "abcd", "cdef")
	w := rewriterOf(t, s, "0123", "4567")
	out, e, at := w.Feed([]byte("--abcde"))
	checkBytes(t, "Feed", out, e, at, "--01", api.OK, 0)
	other, e, at := w.Feed([]byte("fabcd"))
	checkBytes(t, "the second one's last byte", other, e, at, "", api.ErrOverlap, 4)
	for range 2 {
		if w.At() != 7 || w.Held() != 3 || string(out) != "--01" {
			t.Errorf("At %d, Held %d, %q", w.At(), w.Held(), out)
		}
		other, e, at = w.Feed([]byte("x"))
		checkBytes(t, "Feed when broken", other, e, at, "", api.ErrDone, 0)
		other, e, at = w.Close()
		checkBytes(t, "Close when broken", other, e, at, "", api.ErrDone, 0)
	}
}

// What was rewritten in one piece and held back is put out as it was rewritten.
func TestHeldIsRewritten(t *testing.T) {
	s := made(t, "abcd", "cdef")
	w := rewriterOf(t, s, "0123", "4567")
	var got []string
	for _, piece := range []string{"abc", "d", "e", "x", "", "cde", "f"} {
		out, _, _ := w.Feed([]byte(piece))
		got = append(got, string(out))
	}
	out, _, _ := w.Close()
	got = append(got, string(out))
	if want := []string{"", "01", "", "23ex", "", "", "4567", ""}; !slices.Equal(got, want) {
		t.Errorf("%q, want %q", got, want)
	}
}

// Rewriters of one sieve have nothing in common; two that were made alike answer alike.
func TestSeveralRewriters(t *testing.T) {
	s := made(t, "ab", "bc")
	tos := [][]string{{"01", "23"}, {"bc", "ab"}, {"01", "23"}, {"..", ".."}}
	data := []string{"xabxbcxab", "xabxbcxab", "abcxxxxxx", "bcbcabxbc"}
	all := make([]*Rewriter, len(tos))
	got := make([]string, len(tos))
	for k := range all {
		all[k] = rewriterOf(t, s, tos[k]...)
	}
	for i := range data[0] {
		for k, w := range all {
			out, _, _ := w.Feed([]byte{data[k][i]})
			got[k] += string(out)
		}
	}
	for k, w := range all {
		out, _, _ := w.Close()
		got[k] += string(out)
	}
	if want := []string{"x01x23x01", "xbcxabxbc", "0", "......x.."}; !slices.Equal(got, want) {
		t.Errorf("%q, want %q", got, want)
	}
	if all[2].At() != 2 || all[2].Held() != 1 || all[3].At() != 9 || all[3].Held() != 0 {
		t.Error("a broken one beside others")
	}
}

// What is handed in stays as it was, its spare room too; what is handed out shows nowhere else.
func TestRewriterMemory(t *testing.T) {
	s := made(t, "abcd")
	w := rewriterOf(t, s, "0123")
	data := []byte("xyzabcroomroomroom")
	out, _, _ := w.Feed(data[:6])
	if string(data) != "xyzabcroomroomroom" || string(out) != "xyz" {
		t.Errorf("%q, %q", data, out)
	}
	overwrite(data)
	out = append(out, "!!!!!!!!"...)
	second, _, _ := w.Feed([]byte("ab"))
	if string(second) != "abc" || string(out) != "xyz!!!!!!!!" {
		t.Errorf("%q, %q", second, out)
	}
	overwrite(second)
	rest, _, _ := w.Close()
	if string(rest) != "ab" || string(out) != "xyz!!!!!!!!" {
		t.Errorf("%q, %q", rest, out)
	}
}

// What is put out has nothing behind it that is held back.
func TestNothingBehind(t *testing.T) {
	w := rewriterOf(t, made(t, "abcd"), "0123")
	out, _, _ := w.Feed([]byte("xyzabc"))
	if behind := out[len(out):cap(out)]; bytes.ContainsAny(behind, "abc") {
		t.Errorf("behind %q stands %q", out, behind)
	}
}

// A finished or broken one keeps no more than At and Held need.
func TestDoneKeeps(t *testing.T) {
	s := made(t, "aba")
	for _, c := range []struct {
		data string
		want Rewriter
	}{
		{"xab", Rewriter{scanner: Scanner{at: 3}, done: true}},
		{"ababa", Rewriter{done: true}},
	} {
		w := s.Masker()
		w.Feed([]byte(c.data))
		w.Close()
		if !reflect.DeepEqual(*w, c.want) {
			t.Errorf("%q: %v", c.data, *w)
		}
	}
}

// P5.9.
func TestNilRewriter(t *testing.T) {
	for _, w := range []*Rewriter{nil, {}} { // one that no sieve made does nothing either
		for range 2 {
			out, e, at := w.Feed([]byte("abc"))
			checkBytes(t, "Feed", out, e, at, "", api.OK, 0)
			out, e, at = w.Close()
			checkBytes(t, "Close", out, e, at, "", api.OK, 0)
			if w.At() != 0 || w.Held() != 0 {
				t.Errorf("At %d, Held %d", w.At(), w.Held())
			}
		}
	}
}
