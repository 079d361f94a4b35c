package ark

import (
	"bytes"

	"graft/api"
	"graft/lay"
)

// layer lays words down one behind the other, or only counts their bytes, so that a tree has one size and one archive.
type layer struct {
	size  int
	keeps bool
	out   []byte
}

// sizeOf is how many bytes the archive of a tree would have, be it too large or not.
func sizeOf(n api.Node) int {
	var l layer
	l.tree(n)
	return l.size
}

// layTree is the archive of a tree, which has size bytes.
func layTree(n api.Node, size int) []byte {
	l := layer{keeps: true, out: make([]byte, 0, size)}
	l.tree(n)
	return l.out
}

// say lays down words of the grammar.
func (l *layer) say(list ...word) {
	for _, w := range list {
		l.size += len(words[w])
		if l.keeps {
			l.out = append(l.out, words[w]...)
		}
	}
}

// give lays down a word that the tree says.
func (l *layer) give(text []byte) {
	l.size += lay.WordSize(len(text))
	if l.keeps {
		l.out = lay.Word(l.out, text)
	}
}

// tree lays down the words of a whole archive.
func (l *layer) tree(n api.Node) {
	l.say(wordArk)
	open := 0 // the depth down to which nodes are not ended
	for s, m := range walk(n) {
		for ; open >= s.depth(); open-- {
			l.end(open)
		}
		if s.depth() > 1 {
			l.entry(s.name())
		}
		l.node(m)
		open = s.depth()
	}
	for ; open > 0; open-- {
		l.end(open)
	}
}

// entry lays down what stands ahead of an entry's node.
func (l *layer) entry(name string) {
	l.say(wordEntry, wordOpen, wordName)
	l.give([]byte(name))
	l.say(wordNode)
}

// node lays down a node up to its entries.
func (l *layer) node(n api.Node) {
	l.say(wordOpen, wordType)
	switch n.Kind {
	case api.KindFile:
		l.say(wordRegular)
		if n.Exec {
			l.say(wordExecutable, wordEmpty)
		}
		l.say(wordContents)
		l.give(n.Data)
	case api.KindLink:
		l.say(wordSymlink, wordTarget)
		l.give([]byte(n.Link))
	case api.KindDir:
		l.say(wordDirectory)
	}
}

// end lays down what stands behind a node of that depth and its entries: its own end, and its entry's.
func (l *layer) end(depth int) {
	l.say(wordClose)
	if depth > 1 {
		l.say(wordClose)
	}
}

// Writer gives an archive out piece by piece.
type Writer struct {
	left []byte
}

// NewWriter is a writer of a tree's archive.
func NewWriter(n api.Node) (*Writer, api.Errno) {
	data, e := Print(n)
	if e != api.OK {
		return nil, e
	}
	return &Writer{left: data}, api.OK
}

// Next is the next bytes, so many at most; none at the end.
func (w *Writer) Next(most int) []byte {
	if w == nil || most < 1 {
		return nil
	}
	n := min(most, len(w.left))
	piece := bytes.Clone(w.left[:n])
	w.left = w.left[n:]
	return piece
}
