package desk

import (
	"slices"
	"strings"

	"graft/api"
	"graft/digest"
	"graft/label"
)

const (
	mostLetters = 16  // of a nick
	mark        = "!" // behind a nick's second one
)

// nicks is what nicks stand for, and what those with a mark behind them do: these outlive what the nicks themselves stood for.
type nicks struct {
	first  map[string]api.Label
	second map[string]api.Label
}

func newNicks() nicks {
	return nicks{map[string]api.Label{}, map[string]api.Label{}}
}

func isLetter(c byte) bool {
	return c >= 'a' && c <= 'z' || c >= '0' && c <= '9'
}

// letters is how many letters and digits of a nick a text begins with.
func letters(text string) int {
	n := 0
	for n < len(text) && n < mostLetters && isLetter(text[n]) {
		n++
	}
	return n
}

// isNick tells whether a word is a nick, without a mark.
func isNick(word string) bool {
	return letters(word) == len(word)
}

// label is what a nick stands for, with a mark or without.
func (k nicks) label(word string) (api.Label, bool) {
	plain, marked := strings.CutSuffix(word, mark)
	table := k.first
	if marked {
		table = k.second
	}
	l, ok := table[plain]
	return l, ok
}

// renamed gives each nick whose label was renamed its second one.
func (k nicks) renamed(renames []api.Same) {
	for word, l := range k.first {
		at, ok := slices.BinarySearchFunc(renames, l, func(s api.Same, l api.Label) int { return label.Compare(s.Old, l) })
		if ok {
			k.second[word] = renames[at].New
		}
	}
}

// nickAhead is the nick with which a text begins; the empty text, if it begins with none.
func nickAhead(text string) string {
	n := letters(text)
	if n > 0 && strings.HasPrefix(text[n:], mark) {
		n++
	}
	return text[:n]
}

// expanded is a rest with labels in the place of nicks, and these labels, in order; false, if a sign stands there that may not.
func (w *world) expanded(text string) (string, []api.Label, bool) {
	var out strings.Builder
	var named []api.Label
	for {
		at := strings.IndexAny(text, "$%")
		if at < 0 {
			out.WriteString(text)
			return out.String(), label.Sort(named), true
		}
		out.WriteString(text[:at])
		sign, behind := text[at:at+1], text[at+1:]
		if strings.HasPrefix(behind, sign) {
			out.WriteString(sign)
			text = behind[1:]
			continue
		}
		nick := nickAhead(behind)
		l, ok := w.nicks.label(nick)
		if !ok {
			return "", nil, false
		}
		out.WriteString(instead(sign, l))
		named = append(named, l)
		text = behind[len(nick):]
	}
}

// instead is what stands in the place of a sign and a nick.
func instead(sign string, l api.Label) string {
	if sign == "$" {
		return digest.Base32(l.Hash[:])
	}
	text, _ := label.Print(l) // nicks stand for labels that are printable
	return text
}
