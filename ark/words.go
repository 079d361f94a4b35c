package ark

// word is one of the grammar's.
type word int

const (
	wordArk word = iota
	wordOpen
	wordClose
	wordType
	wordRegular
	wordExecutable
	wordEmpty
	wordContents
	wordSymlink
	wordTarget
	wordDirectory
	wordEntry
	wordName
	wordNode
	wordCount
)

// lengthBytes is how many bytes a word's length has; a word takes a multiple of it.
const lengthBytes = 8

// words is the grammar's words as archives have them.
var words [wordCount]string

func init() {
	texts := [wordCount]string{
		wordArk:        "graft-ark-1",
		wordOpen:       "(",
		wordClose:      ")",
		wordType:       "type",
		wordRegular:    "regular",
		wordExecutable: "executable",
		wordEmpty:      "",
		wordContents:   "contents",
		wordSymlink:    "symlink",
		wordTarget:     "target",
		wordDirectory:  "directory",
		wordEntry:      "entry",
		wordName:       "name",
		wordNode:       "node",
	}
	for i, text := range texts {
		words[i] = string(appendWord(nil, []byte(text)))
	}
}

// text is what a word of the grammar says.
func (w word) text() string {
	laid := words[w]
	return laid[lengthBytes : lengthBytes+int(laid[0])]
}

// appendWord lays down a word behind what is there.
func appendWord(out, text []byte) []byte {
	for i := range lengthBytes {
		out = append(out, byte(len(text)>>(8*i)))
	}
	out = append(out, text...)
	for range wordSize(len(text)) - lengthBytes - len(text) {
		out = append(out, 0)
	}
	return out
}

// wordSize is how many bytes the word of a text of n bytes has.
func wordSize(n int) int {
	return lengthBytes + (n+lengthBytes-1)/lengthBytes*lengthBytes
}
