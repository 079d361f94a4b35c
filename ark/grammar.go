package ark

import (
	"graft/api"
)

// The states of the grammar: each has the word that it is called after, its padding too.

// begin has nothing yet.
func begin(r *Reader) state {
	return r.await(nodeNext, wordArk)
}

// nodeNext has what stands ahead of a node.
func nodeNext(r *Reader) state {
	return r.await(nodeBegins, wordOpen)
}

func nodeBegins(r *Reader) state {
	if r.nodes == api.MaxNodes {
		return r.fail(api.ErrMany, r.at)
	}
	if len(r.open) == api.MaxDepth {
		return r.fail(api.ErrDeep, r.at)
	}
	r.nodes++
	r.open = append(r.open, api.Entry{Name: r.text})
	return r.await(typeSaid, wordType)
}

func typeSaid(r *Reader) state {
	return r.await(kindSaid, wordRegular, wordSymlink, wordDirectory)
}

func kindSaid(r *Reader) state {
	switch r.said {
	case wordRegular:
		r.top().Kind = api.KindFile
		return r.await(fileSaid, wordExecutable, wordContents)
	case wordSymlink:
		r.top().Kind = api.KindLink
		return r.await(targetSaid, wordTarget)
	}
	r.top().Kind = api.KindDir
	return r.await(listSaid, wordEntry, wordClose)
}

// fileSaid has the word that tells whether a file may be run.
func fileSaid(r *Reader) state {
	if r.said == wordContents {
		return contentsSaid(r)
	}
	r.top().Exec = true
	return r.await(emptySaid, wordEmpty)
}

func emptySaid(r *Reader) state {
	return r.await(contentsSaid, wordContents)
}

func contentsSaid(r *Reader) state {
	return r.awaitForm(dataGiven, formData)
}

func dataGiven(r *Reader) state {
	r.top().Data, r.data = r.data, nil
	return r.await(nodeEnds, wordClose)
}

func targetSaid(r *Reader) state {
	return r.awaitForm(linkGiven, formLink)
}

func linkGiven(r *Reader) state {
	r.top().Link = r.text
	return r.await(nodeEnds, wordClose)
}

// listSaid has the word that tells whether a directory has one more entry.
func listSaid(r *Reader) state {
	if r.said == wordClose {
		return nodeEnds(r)
	}
	return r.await(entryBegins, wordOpen)
}

func entryBegins(r *Reader) state {
	return r.await(nameSaid, wordName)
}

func nameSaid(r *Reader) state {
	return r.awaitForm(nameGiven, formName)
}

func nameGiven(r *Reader) state {
	return r.await(nodeNext, wordNode)
}

func nodeEnds(r *Reader) state {
	last := len(r.open) - 1
	ended := r.open[last]
	r.open = r.open[:last]
	if last == 0 {
		r.tree = ended.Node
		return r.wait(1, readTail)
	}
	r.top().List = append(r.top().List, ended)
	return r.await(entryEnds, wordClose)
}

func entryEnds(r *Reader) state {
	return r.await(listSaid, wordEntry, wordClose)
}

// top is the node that is being read.
func (r *Reader) top() *api.Node {
	return &r.open[len(r.open)-1].Node
}
