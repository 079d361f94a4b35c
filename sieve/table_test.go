package sieve

import (
	"slices"
	"strings"
	"testing"
)

// The states of a table, read off by their letters, are the beginnings of the words, the shorter ones first; each falls back to the longest other one that it ends with.
func TestTableStates(t *testing.T) {
	r := sourceOf(6)
	for _, c := range []struct {
		n, width int
		letters  string
	}{{0, 0, "a"}, {1, 1, "a"}, {1, 5, "a"}, {7, 3, "ab"}, {30, 6, "ab"}, {600, 9, "ab"}, {900, 3, "abcdefghijkl"}} {
		words := somePatterns(r, c.n, c.width, c.letters)
		slices.Sort(words)
		tab := newTable(c.width, words, words)
		states := statesOf(tab)
		want := []string{""}
		for depth := 1; depth <= c.width; depth++ {
			for _, word := range words {
				want = append(want, word[:depth])
			}
		}
		if want = slices.Compact(want); !slices.Equal(states, want) {
			t.Fatalf("%q: the states %q", words, states)
		}
		checkSteps(t, tab, states)
	}
}

// statesOf is the text of each state.
func statesOf(tab *table[string]) []string {
	states := make([]string, len(tab.letters))
	for state := range tab.parts() {
		for follower := tab.firsts[state]; follower < tab.firsts[state+1]; follower++ {
			states[follower] = states[state] + string(tab.letters[follower])
		}
	}
	return states
}

// checkSteps holds where each byte leads from each state against what the states' texts say, and what each state stands for.
func checkSteps(t *testing.T, tab *table[string], states []string) {
	t.Helper()
	numbers := map[string]int{}
	for i, text := range states {
		numbers[text] = i
	}
	longest := func(text string) int {
		for numbers[text] == 0 && text != "" {
			text = text[1:]
		}
		return numbers[text]
	}
	for i, text := range states {
		if int(tab.depths[i]) != len(text) {
			t.Fatalf("%q has the length %d", text, tab.depths[i])
		}
		value, whole := tab.word(int32(i))
		if whole != (i > 0 && len(text) == tab.width) || whole && value != text || !whole && value != "" {
			t.Fatalf("%q stands for %q, %v", text, value, whole)
		}
		if i > 0 && int(tab.backs[i]) != longest(text[1:]) {
			t.Fatalf("%q falls back to %q", text, states[tab.backs[i]])
		}
		if whole {
			continue
		}
		for _, b := range []byte("abcl\x00z\xff") {
			if next := tab.next(int32(i), b); int(next) != longest(text+string([]byte{b})) {
				t.Fatalf("from %q by %q to %q", text, b, states[next])
			}
		}
	}
}

// Rows are few, however many states there are.
func TestTableRows(t *testing.T) {
	for _, c := range []struct {
		words []string
		rows  int
	}{{nil, 1}, {[]string{"a"}, 1}, {[]string{strings.Repeat("a", 64)}, 64}, {numbersAsText(4096, 64), mostRows}} {
		width := 0
		if len(c.words) > 0 {
			width = len(c.words[0])
		}
		slices.Sort(c.words)
		if tab := newTable(width, c.words, c.words); len(tab.rows) != c.rows {
			t.Errorf("%d words: %d rows, want %d", len(c.words), len(tab.rows), c.rows)
		}
	}
}
