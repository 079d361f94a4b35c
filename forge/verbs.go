package forge

import (
	"bytes"
	"strings"

	"graft/api"
	"graft/ark"
	"graft/digest"
)

// What the verbs do, with their words and rest as they have come to be; false if the step fails.

func (b *bench) dir(said []string) bool { return b.lay(said[0], api.Node{Kind: api.KindDir}) }

func (b *bench) file(said []string) bool { return b.lay(said[0], fileOf(said[1])) }

func (b *bench) link(said []string) bool {
	return b.lay(said[0], api.Node{Kind: api.KindLink, Link: said[1]})
}

func (b *bench) copy(said []string) bool {
	n := b.from(said[1])
	if n == nil {
		return false
	}
	like, _ := ark.Find(*n, "") // the node itself, in new memory
	return b.lay(said[0], like)
}

func (b *bench) move(said []string) bool {
	n, ok := b.take(said[1])
	return ok && b.lay(said[0], n)
}

func (b *bench) sum(said []string) bool {
	n := b.from(said[1])
	if n == nil {
		return false
	}
	data, _ := ark.Print(*n) // a part of a tree is one
	return b.lay(said[0], fileOf(digest.Show(digest.Of(data), api.FormHex)+"\n"))
}

func (b *bench) list(said []string) bool {
	n := b.from(said[1])
	return n != nil && b.lay(said[0], fileOf(listOf(*n)))
}

func (b *bench) text(said []string) bool { return b.grow(said[0], []byte(said[1])) }

func (b *bench) line(said []string) bool { return b.grow(said[0], []byte(said[1]+"\n")) }

func (b *bench) add(said []string) bool {
	n := b.from(said[1])
	return isFile(n) && b.grow(said[0], n.Data)
}

// grow lays bytes behind those of a file.
func (b *bench) grow(way string, data []byte) bool {
	return b.change(way, func(file *api.Node) bool {
		file.Data = append(file.Data, data...)
		return true
	})
}

func (b *bench) swap(said []string) bool {
	word, rest := []byte(said[1]), []byte(said[2])
	return len(word) > 0 && b.change(said[0], func(file *api.Node) bool {
		// What would be far too large for any tree is not made.
		if len(file.Data)+bytes.Count(file.Data, word)*(len(rest)-len(word)) > api.MaxArk {
			return false
		}
		file.Data = bytes.ReplaceAll(file.Data, word, rest)
		return true
	})
}

func (b *bench) exec(said []string) bool { return b.mark(said[0], true) }

func (b *bench) plain(said []string) bool { return b.mark(said[0], false) }

func (b *bench) mark(way string, exec bool) bool {
	return b.change(way, func(file *api.Node) bool {
		file.Exec = exec
		return true
	})
}

func (b *bench) drop(said []string) bool {
	_, ok := b.take(said[0])
	return ok
}

func (b *bench) need(said []string) bool { return b.from(said[0]) != nil }

func (b *bench) fail([]string) bool { return false }

func fileOf(text string) api.Node { return api.Node{Kind: api.KindFile, Data: []byte(text)} }

// listOf is a line for each node of a tree.
func listOf(n api.Node) string {
	var text strings.Builder
	for way, m := range ark.Each(n) {
		text.WriteString(letterOf(m) + " " + way + "\n")
		// Deep trees have lists that are far longer than any file may be: no more of one is made than shows it.
		if text.Len() > api.MaxArk {
			break
		}
	}
	return text.String()
}

func letterOf(n api.Node) string {
	switch {
	case n.Kind == api.KindDir:
		return "d"
	case n.Kind == api.KindLink:
		return "l"
	case n.Exec:
		return "x"
	}
	return "f"
}
