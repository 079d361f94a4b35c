package ark

import "graft/lay"

// word is one of the grammar's.
type word int

const (
	wordArk word = iota
	wordOpen
	wordClose
	wordType
	wordRegular
	wordExecutable
	wordEmpty
	wordContents
	wordSymlink
	wordTarget
	wordDirectory
	wordEntry
	wordName
	wordNode
	wordCount
)

// words is the grammar's words as archives have them.
var words [wordCount]string

func init() {
	texts := [wordCount]string{
		wordArk:        "graft-ark-1",
		wordOpen:       "(",
		wordClose:      ")",
		wordType:       "type",
		wordRegular:    "regular",
		wordExecutable: "executable",
		wordEmpty:      "",
		wordContents:   "contents",
		wordSymlink:    "symlink",
		wordTarget:     "target",
		wordDirectory:  "directory",
		wordEntry:      "entry",
		wordName:       "name",
		wordNode:       "node",
	}
	for i, text := range texts {
		words[i] = string(lay.Word(nil, []byte(text)))
	}
}

// text is what a word of the grammar says.
func (w word) text() string {
	laid := words[w]
	return laid[lay.NumberSize : lay.NumberSize+int(laid[0])]
}
