package desk

import (
	"math"
	"strconv"
	"strings"

	"graft/api"
	"graft/digest"
	"graft/label"
)

const (
	mostDigits = 9  // of a number
	mostNicks  = 16 // behind a command that takes several
)

// cutWord is the first word of a line, and what stands behind the blank that ends it; the empty word, if there is none.
func cutWord(line string) (word, behind string) {
	word, behind, _ = strings.Cut(strings.TrimLeft(line, " "), " ")
	return word, behind
}

func number(n int) string { return strconv.Itoa(n) }

// numberOf is the number that a word says. (A word has a byte at least.)
func numberOf(word string) (int, bool) {
	if len(word) > mostDigits {
		return 0, false
	}
	n := 0
	for i := range len(word) {
		if word[i] < '0' || word[i] > '9' {
			return 0, false
		}
		n = 10*n + int(word[i]-'0')
	}
	return n, true
}

// given is what a command was given, each kind by itself, in the order of the words.
type given struct {
	words   []string // as they stand: nicks too
	numbers []int
	labels  []api.Label // of the nicks that stand for something
	hash    api.Hash
	data    []byte      // of digits
	rest    string      // expanded
	named   []api.Label // the labels that rest mentions
}

// taker takes a word as what it stands for; false, if it is not what is asked for.
type taker func(w *world, g *given, word string) bool

// tail is what stands behind a command's words.
type tail int

const (
	nothing   tail = iota
	moreNicks      // up to 15 behind the one that stands there
	theRest        // REST
)

// take takes what stands behind a command's word as its row says.
func (w *world) take(r row, line string) (given, bool) {
	var g given
	for _, takes := range r.takes {
		word, behind := cutWord(line)
		if word == "" || !takes(w, &g, word) {
			return given{}, false
		}
		line = behind
	}
	switch r.tail {
	case moreNicks:
		return w.takeMore(g, line)
	case theRest:
		return w.takeRest(g, line)
	}
	word, _ := cutWord(line)
	return g, word == ""
}

// takeMore takes the nicks behind the first one.
func (w *world) takeMore(g given, line string) (given, bool) {
	for {
		word, behind := cutWord(line)
		if word == "" {
			return g, true
		}
		if len(g.labels) == mostNicks || !aNick(w, &g, word) {
			return given{}, false
		}
		line = behind
	}
}

func (w *world) takeRest(g given, line string) (given, bool) {
	text, named, ok := w.expanded(line)
	g.rest, g.named = text, named
	return g, ok
}

func aWord(w *world, g *given, word string) bool {
	g.words = append(g.words, word)
	return true
}

func aName(w *world, g *given, word string) bool {
	e, _ := label.Check(word)
	return e == api.OK && aWord(w, g, word)
}

// aNewNick takes a nick that is to stand for something.
func aNewNick(w *world, g *given, word string) bool {
	return isNick(word) && aWord(w, g, word)
}

// aNick takes a nick that stands for something.
func aNick(w *world, g *given, word string) bool {
	l, ok := w.nicks.label(word)
	g.labels = append(g.labels, l)
	return ok && aWord(w, g, word)
}

// within takes a number that is neither below least nor above most.
func within(g *given, word string, least, most int) bool {
	n, ok := numberOf(word)
	g.numbers = append(g.numbers, n)
	return ok && n >= least && n <= most
}

func aNumber(w *world, g *given, word string) bool {
	return within(g, word, 0, math.MaxInt)
}

func aStore(w *world, g *given, word string) bool {
	return within(g, word, 1, len(w.stores))
}

func aByte(w *world, g *given, word string) bool {
	return within(g, word, 0, math.MaxUint8)
}

func aFile(w *world, g *given, word string) bool {
	return within(g, word, 0, len(w.files)-1)
}

// aPlace takes a place in the file whose number stands ahead of it.
func aPlace(w *world, g *given, word string) bool {
	return within(g, word, 0, len(w.files[g.numbers[0]].Data)-1)
}

// digits takes bytes in base 16.
func digits(w *world, g *given, word string) bool {
	data, e, _ := digest.UnHex(word)
	g.data = data
	return e == api.OK
}

// aHash takes a label's digits: of all texts only those of 32 digits come to so many bytes, and what is no digits comes to none.
func aHash(w *world, g *given, word string) bool {
	data, _, _ := digest.UnBase32(word)
	copy(g.hash[:], data)
	return len(data) == len(g.hash)
}
