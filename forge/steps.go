package forge

import (
	"iter"
	"strings"

	"graft/api"
)

// blank stands ahead of each word and of the rest.
const blank = " "

// verb is what a verb takes behind it, and does.
type verb struct {
	words int
	rest  bool
	do    func(b *bench, said []string) bool
}

// verbOf is the table of verbs; false if there is no such verb.
func verbOf(name string) (verb, bool) {
	switch name {
	case "dir":
		return verb{1, false, (*bench).dir}, true
	case "file":
		return verb{1, true, (*bench).file}, true
	case "link":
		return verb{1, true, (*bench).link}, true
	case "copy":
		return verb{2, false, (*bench).copy}, true
	case "move":
		return verb{2, false, (*bench).move}, true
	case "sum":
		return verb{2, false, (*bench).sum}, true
	case "list":
		return verb{2, false, (*bench).list}, true
	case "text":
		return verb{1, true, (*bench).text}, true
	case "line":
		return verb{1, true, (*bench).line}, true
	case "add":
		return verb{2, false, (*bench).add}, true
	case "swap":
		return verb{2, true, (*bench).swap}, true
	case "exec":
		return verb{1, false, (*bench).exec}, true
	case "plain":
		return verb{1, false, (*bench).plain}, true
	case "drop":
		return verb{1, false, (*bench).drop}, true
	case "need":
		return verb{1, false, (*bench).need}, true
	case "fail":
		return verb{0, true, (*bench).fail}, true
	}
	return verb{}, false
}

// step is an argument that was told apart: its verb, and its words and rest as they stand there.
type step struct {
	verb
	texts []string
}

// tell tells a step's words apart; false if it is no step.
func tell(arg string) (step, bool) {
	name, _, _ := strings.Cut(arg, blank)
	v, ok := verbOf(name)
	s, left := step{verb: v}, arg[len(name):]
	for n := 0; ok && n < v.words; n++ {
		var word string
		word, left, ok = cutWord(left)
		s.texts = append(s.texts, word)
	}
	if ok && v.rest {
		var rest string
		rest, ok = strings.CutPrefix(left, blank)
		s.texts, left = append(s.texts, rest), ""
	}
	return s, ok && left == ""
}

// cutWord takes a blank and a word from the head of a text: the word, and what is left.
func cutWord(text string) (string, string, bool) {
	text, ok := strings.CutPrefix(text, blank)
	word, _, _ := strings.Cut(text, blank)
	return word, text[len(word):], ok && word != ""
}

// values is an environment, as steps ask for it.
type values struct {
	env   []api.Pair
	first map[string]int // by key, the first element that has it
}

func valuesOf(env []api.Pair) values {
	v := values{env, make(map[string]int, len(env))}
	for i, pair := range env {
		if _, there := v.first[pair.Key]; !there {
			v.first[pair.Key] = i
		}
	}
	return v
}

// pieces goes over what a word or a rest stands for, piece by piece. Where a $ or a key may not stand a false comes, and nothing behind it.
func (v values) pieces(text string) iter.Seq2[string, bool] {
	return func(yield func(string, bool) bool) {
		for left, ok := text, true; ok && left != ""; {
			var piece string
			piece, left, ok = v.piece(left)
			if !yield(piece, ok) {
				return
			}
		}
	}
}

// piece is what the head of a text stands for, and what is left of the text.
func (v values) piece(text string) (string, string, bool) {
	plain, left, _ := strings.Cut(text, "$")
	switch {
	case plain != "":
		return plain, text[len(plain):], true
	case strings.HasPrefix(left, "$"):
		return "$", left[1:], true
	case !strings.HasPrefix(left, "{"):
		return "", "", false
	}
	key, left, closed := strings.Cut(left[1:], "}")
	i, there := v.first[key]
	if !closed || !there {
		return "", "", false
	}
	return v.env[i].Value, left, true
}

// take says whether every $ and every key of a step may stand.
func (v values) take(s step) bool {
	for _, text := range s.texts {
		for _, ok := range v.pieces(text) {
			if !ok {
				return false
			}
		}
	}
	return true
}

// said is a step's words and rest as they come to be; false if they are too long together.
func (v values) said(texts []string) ([]string, bool) {
	out, room := make([]string, len(texts)), api.MaxArk
	for i, text := range texts {
		var said strings.Builder
		for piece := range v.pieces(text) {
			// A few bytes may stand for very many: so it is asked ahead of laying them down.
			if room -= len(piece); room < 0 {
				return nil, false
			}
			said.WriteString(piece)
		}
		out[i] = said.String()
	}
	return out, true
}
