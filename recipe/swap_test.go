package recipe

import (
	"slices"
	"strings"
	"testing"

	"graft/api"
)

// plainSwaps says whether Swap takes these, by the chapter's words.
func plainSwaps(from, to []string) bool {
	for i, a := range from {
		for k, b := range from {
			if a == "" || i != k && strings.Contains(b, a) {
				return false
			}
		}
	}
	return len(from) == len(to)
}

// plainReplace is a text with its froms replaced, from the left.
func plainReplace(text string, from, to []string) string {
	for at := range len(text) {
		for i, f := range from {
			if strings.HasPrefix(text[at:], f) {
				return text[:at] + to[i] + plainReplace(text[at+len(f):], from, to)
			}
		}
	}
	return text
}

// holdSwap holds what Swap answers of texts in Args and in Env's values.
func holdSwap(t *testing.T, texts, from, to []string) {
	t.Helper()
	r := full()
	r.Args, r.Env = texts, nil
	for _, text := range texts {
		r.Env = append(r.Env, api.Pair{Key: text, Value: text})
	}
	want, wantE := api.Recipe{}, api.ErrArg
	if plainSwaps(from, to) {
		want, wantE = full(), api.OK
		want.Args, want.Env = nil, nil
		for _, text := range texts {
			got := plainReplace(text, from, to)
			want.Args = append(want.Args, got)
			want.Env = append(want.Env, api.Pair{Key: text, Value: got})
		}
	}
	if got, e := Swap(r, from, to); e != wantE || !same(got, want) {
		t.Fatalf("P6.7: Swap of %q from %q to %q = %d, %q, want %d, %q", texts, from, to, e, got.Args, wantE, want.Args)
	}
}

// The example 9, and others.
func TestSwapExamples(t *testing.T) {
	r := first()
	r.Args = []string{"ab ab", "aba"}
	got, e := Swap(r, []string{"ab"}, []string{"c"})
	if e != api.OK || !slices.Equal(got.Args, []string{"c c", "ca"}) {
		t.Errorf("P6.7: %d, %q", e, got.Args)
	}
	if got, e := Swap(r, []string{"a", "ab"}, []string{"c", "d"}); e != api.ErrArg || !same(got, api.Recipe{}) {
		t.Errorf("P6.7: %d, %s", e, plainText(got))
	}
	for _, c := range []struct {
		text     string
		from, to []string
		want     string
	}{
		{"abab", []string{"ab"}, []string{"x"}, "xx"},                              // touching
		{"abcab", []string{"ab", "ca"}, []string{"1", "2"}, "12b"},                 // the left one first
		{"cabcab", []string{"ab", "ca"}, []string{"1", "2"}, "2b2b"},               // overlapping ones
		{"aaa", []string{"aa"}, []string{"b"}, "ba"},                               // one that overlaps itself
		{"aab", []string{"ab"}, []string{"b"}, "ab"},                               // what a replacement makes with what is ahead
		{"abb", []string{"ab"}, []string{"a"}, "ab"},                               // and with what is behind
		{"ab", []string{"a", "b"}, []string{"b", "a"}, "ba"},                       // exchanged
		{"axb", []string{"x", "ab"}, []string{"", "z"}, "ab"},                      // neighbours that come together
		{"ab", []string{"ab"}, []string{"abab"}, "abab"},                           // a replacement that holds its from
		{"ab", []string{"ab"}, []string{""}, ""},                                   // nothing is left
		{"", []string{"ab"}, []string{"x"}, ""},                                    // nothing is there
		{"a", []string{"ab"}, []string{"x"}, "a"},                                  // a beginning
		{"ba", []string{"ab"}, []string{"x"}, "ba"},                                // an end and a beginning
		{"\x00\xff\n\"", []string{"\xff\n"}, []string{"\\\x80"}, "\x00\\\x80\""},   // any bytes
		{"é", []string{"\xc3"}, []string{"a"}, "a\xa9"},                            // bytes, not characters
		{"abcd", nil, nil, "abcd"},                                                 // none
		{"abcd", []string{}, nil, "abcd"},                                          // none either
		{"abcabd", []string{"abd", "abc"}, []string{"1", "2"}, "21"},               // common beginnings
		{"xbcabc", []string{"abc", "xbc"}, []string{"1", "2"}, "21"},               // common ends
		{x + y, []string{x, y}, []string{y, x}, y + x},                             // labels' texts
		{"aXbXc", []string{"X"}, []string{"XX"}, "aXXbXXc"},                        // longer ones
		{strings.Repeat("ab", 9), []string{"ba"}, []string{"-"}, "a--------b"},     // many
		{"aaab", []string{"aab", "b!"}, []string{"1", "2"}, "a1"},                  // going back by one
		{"aaaaab", []string{"aaab", "aaac"}, []string{"1", "2"}, "aa1"},            // and by more
		{"ac", []string{"ab", "ad"}, []string{"1", "2"}, "ac"},                     // between two
		{"abe", []string{"aba", "ac"}, []string{"1", "2"}, "abe"},                  // one that is below, no beginning
		{"\xff\xff", []string{"\xff"}, []string{"\x00"}, "\x00\x00"},               // the last byte
		{"\x00", []string{"\x00"}, []string{"\xff"}, "\xff"},                       // the first byte
		{"ab", []string{"a\x00", "ab"}, []string{"1", "2"}, "2"},                   // a byte behind another
		{"a\x00ab", []string{"a\x00", "ab"}, []string{"same", "same"}, "samesame"}, // one replacement for two
		{"zzz", []string{"a", "b", "c"}, []string{"1", "2", "3"}, "zzz"},           // above all
		{"   ", []string{"a", "b", "c"}, []string{"1", "2", "3"}, "   "},           // below all
		{"cba", []string{"c", "b", "a"}, []string{"1", "2", "3"}, "123"},           // froms in any order
		{"hello", []string{"l"}, []string{"L"}, "heLLo"},                           // one byte
		{"a-bc-d", []string{"-", "bc"}, []string{"bc", "-"}, "abc-bcd"},            // of unlike lengths
		{"mississippi", []string{"issi", "pp"}, []string{"I", "P"}, "mIssiPi"},     // going on behind a from
		{"mississippi", []string{"ss", "i"}, []string{"i", "ss"}, "mssississppss"}, // each in its place
	} {
		holdSwap(t, []string{c.text}, c.from, c.to)
		r := api.Recipe{Args: []string{c.text}, Env: []api.Pair{{Value: c.text}}}
		if got, e := Swap(r, c.from, c.to); e != api.OK || got.Args[0] != c.want || got.Env[0].Value != c.want {
			t.Errorf("P6.7: Swap of %q from %q to %q = %d, %q, want %q", c.text, c.from, c.to, e, got.Args, c.want)
		}
	}
}

// P6.7: what may not be swapped.
func TestSwapRefuses(t *testing.T) {
	for _, c := range []struct{ from, to []string }{
		{[]string{"a"}, nil}, {nil, []string{"a"}}, {[]string{"a", "b"}, []string{"c"}}, {[]string{"a"}, []string{"b", "c"}},
		{[]string{""}, []string{"a"}}, {[]string{"a", ""}, []string{"b", "c"}}, {[]string{"", ""}, []string{"", ""}},
		{[]string{"a", "a"}, []string{"b", "b"}}, {[]string{"ab", "c", "ab"}, []string{"1", "2", "3"}},
		{[]string{"a", "ab"}, []string{"1", "2"}}, {[]string{"ab", "a"}, []string{"1", "2"}}, {[]string{"b", "ab"}, []string{"1", "2"}},
		{[]string{"abc", "b"}, []string{"1", "2"}}, {[]string{"abcd", "bc"}, []string{"1", "2"}}, {[]string{"xaby", "zab", "ab"}, []string{"1", "2", "3"}},
		{[]string{"aab", "aa"}, []string{"1", "2"}}, {[]string{"baa", "aa"}, []string{"1", "2"}}, {[]string{"aaa", "aa"}, []string{"1", "2"}},
		{[]string{"ab", "ac", "abd"}, []string{"1", "2", "3"}}, {[]string{"ab", "abc", "abd"}, []string{"1", "2", "3"}},
		{[]string{"x\x00y", "\x00"}, []string{"1", "2"}}, {[]string{"\xff\xff", "\xff"}, []string{"1", "2"}},
		{[]string{"zzzzab", "ab", "b!"}, []string{"1", "2", "3"}}, {[]string{"m", "a", "xyzm"}, []string{"1", "2", "3"}},
	} {
		holdSwap(t, []string{"abc", "", "a"}, c.from, c.to)
		for _, r := range []api.Recipe{{}, first(), full(), odd()} {
			if got, e := Swap(r, c.from, c.to); e != api.ErrArg || !same(got, api.Recipe{}) {
				t.Errorf("P6.7: Swap from %q to %q = %d, %s", c.from, c.to, e, plainText(got))
			}
		}
	}
}

// P6.7: nothing but arguments and values is changed.
func TestSwapPlaces(t *testing.T) {
	r := odd()
	r.System, r.Builder = "out", "1out"
	got, e := Swap(r, []string{"1", "out"}, []string{"out", "<>"})
	want := odd()
	want.System, want.Builder = "out", "1out"
	want.Args = []string{"<>", "out"}
	want.Env[4].Value, want.Env[6].Value = "<>", "out"
	if e != api.OK || !same(got, want) {
		t.Errorf("P6.7: Swap = %d, %s, want %s", e, plainText(got), plainText(want))
	}
}

// lettered is all texts of at most n letters, by their lengths.
func lettered(n int, letters string) []string {
	all := []string{""}
	for from := 0; n > 0; n-- {
		to := len(all)
		for _, text := range all[from:to] {
			for i := range len(letters) {
				all = append(all, text+letters[i:i+1])
			}
		}
		from = to
	}
	return all
}

// P6.7: all pairs of froms of up to three letters in all texts of up to six, and all threes in some.
func TestSwapAll(t *testing.T) {
	texts := lettered(6, "ab")
	few := []string{"", "abaabbabab", "aaabbbaab", "babaabaaabba", "bbabbaaaba"}
	froms := lettered(3, "ab")
	taken := 0
	for _, a := range froms {
		holdSwap(t, texts, []string{a}, []string{"b"})
		for _, b := range froms {
			holdSwap(t, texts, []string{a, b}, []string{b + "1", ""})
			if plainSwaps([]string{a, b}, []string{"", ""}) {
				taken++
			}
			for _, c := range froms {
				holdSwap(t, few, []string{a, b, c}, []string{c, a, "-"})
			}
		}
	}
	if taken < 20 {
		t.Errorf("only %d pairs are taken", taken)
	}
}

// P6.7: many froms of several lengths.
func TestSwapMany(t *testing.T) {
	r := sourceOf(6)
	taken := 0
	for range 3000 {
		letters := pick(r, "ab", "abc", "abcdefgh", "a\x00\xff")
		word := func(least, more int) string {
			var out []byte
			for range least + r.IntN(more) {
				out = append(out, letters[r.IntN(len(letters))])
			}
			return string(out)
		}
		least := pick(r, 1, 2, 4, 8)
		var from, to []string
		for range r.IntN(6) {
			if f := word(least, 3); r.IntN(20) == 0 || plainSwaps(append(slices.Clone(from), f), append(slices.Clone(to), "")) {
				from, to = append(from, f), append(to, pick(r, "", "a", "ab", word(0, 9)))
			}
		}
		if plainSwaps(from, to) && len(from) > 1 {
			taken++
		}
		var texts []string
		for range 4 {
			text := ""
			for range r.IntN(12) {
				text += pick(r, append(slices.Clone(from), word(0, 6), "")...)
			}
			texts = append(texts, text)
		}
		holdSwap(t, texts, from, to)
	}
	if taken < 1000 {
		t.Errorf("only %d lists are taken", taken)
	}
}

// P6.7: as many labels as a closure has, in long texts.
func TestSwapGreat(t *testing.T) {
	var from, to []string
	for i := range 2048 {
		digits := []byte(strings.Repeat("0", 32))
		for k, n := 31, i; n > 0; k, n = k-1, n/16 {
			digits[k] = "0123456789abcdfg"[n%16]
		}
		from = append(from, api.Store+string(digits)+"-x")
		to = append(to, strings.ToUpper(string(digits)))
	}
	r := api.Recipe{Args: []string{strings.Join(from, " "), strings.Join(from, ""), strings.Repeat("a", 1<<20)}}
	got, e := Swap(r, from, to)
	if e != api.OK || got.Args[0] != strings.Join(to, " ") || got.Args[1] != strings.Join(to, "") || got.Args[2] != r.Args[2] {
		t.Errorf("P6.7: Swap of %d labels: %d", len(from), e)
	}
	if _, e := Swap(r, append(slices.Clone(from), from[1000][20:40]), append(slices.Clone(to), "")); e != api.ErrArg {
		t.Errorf("P6.7: a piece of one of %d labels: %d", len(from), e)
	}
	long := strings.Repeat("a", 1<<20)
	got, e = Swap(api.Recipe{Args: []string{long + "b" + long}}, []string{long + "b", long + "c"}, []string{"x", "y"})
	if e != api.OK || got.Args[0] != "x"+long {
		t.Errorf("P6.7: Swap of long texts: %d", e)
	}
}
