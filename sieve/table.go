package sieve

import "bytes"

// mostRows is how many states have a whole row. Bytes that are in no word stay among the first states, so a few rows are enough to go fast there; rows for all states would take 256 MiB for the most and longest patterns.
const mostRows = 64

// A table is the automaton of Aho and Corasick for words of one width, each of which stands for a value.
// A state is a beginning of some word. States are numbered from the shortest on, and those of one length in their order: so what follows upon a state by one byte more is numbered in a row, and the whole words come last, in their order.
type table[V any] struct {
	width   int
	letters []byte       // of each state its last byte (of the first, which is empty, a 0 that nobody asks for)
	depths  []uint8      // of each state its length
	firsts  []int32      // of each state that is no whole word the first that follows upon it; behind these the number of all states
	backs   []int32      // of each state the longest shorter one that it ends with
	rows    [][256]int32 // of the first states, where each byte leads from there
	values  []V          // of each whole word what it stands for
}

// newTable is the table of words, which must have that width, be in order and none twice; at a word's place in values is its own.
func newTable[V any](width int, words []string, values []V) *table[V] {
	t := &table[V]{width: width, values: values}
	t.layStates(words)
	t.layBacks()
	return t
}

// layStates lays the states down, length by length: a word begins a new state of some length where it shares fewer bytes with the word ahead of it.
func (t *table[V]) layStates(words []string) {
	shared := sharedBytes(words)
	t.letters, t.depths, t.firsts = []byte{0}, []uint8{0}, []int32{1}
	for depth := 1; depth <= t.width; depth++ {
		for i, word := range words {
			if shared[i] < depth-1 {
				t.firsts = append(t.firsts, int32(len(t.letters)))
			}
			if shared[i] < depth {
				t.letters = append(t.letters, word[depth-1])
				t.depths = append(t.depths, uint8(depth))
			}
		}
	}
	t.firsts = append(t.firsts, int32(len(t.letters)))
}

// sharedBytes is with how many of its first bytes each word begins like the one ahead of it.
func sharedBytes(words []string) []int {
	shared := make([]int, len(words))
	for i := 1; i < len(words); i++ {
		for shared[i] < len(words[i]) && words[i][shared[i]] == words[i-1][shared[i]] {
			shared[i]++
		}
	}
	return shared
}

// layBacks goes by rising numbers: what a state needs is laid down for shorter ones.
func (t *table[V]) layBacks() {
	t.backs = make([]int32, len(t.letters))
	parts := t.parts()
	t.rows = make([][256]int32, 0, min(parts, mostRows))
	for state := range int32(parts) {
		if len(t.rows) < mostRows {
			t.rows = append(t.rows, t.rowOf(state))
		}
		if state == 0 {
			continue // what has one byte ends with the empty state alone
		}
		for follower := t.firsts[state]; follower < t.firsts[state+1]; follower++ {
			t.backs[follower] = t.next(t.backs[state], t.letters[follower])
		}
	}
}

// parts is how many states are no whole words.
func (t *table[V]) parts() int { return len(t.firsts) - 1 }

// rowOf is a state's row: its followers, and for all other bytes the row of the state that it falls back to.
func (t *table[V]) rowOf(state int32) [256]int32 {
	var row [256]int32
	if state > 0 {
		row = t.rows[t.backs[state]]
	}
	for follower := t.firsts[state]; follower < t.firsts[state+1]; follower++ {
		row[t.letters[follower]] = follower
	}
	return row
}

// next is where a byte leads from a state that is no whole word: to the longest state with which all that came ends.
func (t *table[V]) next(state int32, b byte) int32 {
	for int(state) >= len(t.rows) {
		first := t.firsts[state]
		if i := bytes.IndexByte(t.letters[first:t.firsts[state+1]], b); i >= 0 {
			return first + int32(i)
		}
		state = t.backs[state]
	}
	return t.rows[state][b]
}

// word is what a state stands for; false if it is no whole word.
func (t *table[V]) word(state int32) (V, bool) {
	i := int(state) - t.parts()
	if i < 0 {
		var nothing V
		return nothing, false
	}
	return t.values[i], true
}
