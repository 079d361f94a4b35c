package ark

import (
	"strings"

	"graft/api"
)

// measure is how many bytes a tree's archive has, or the first fault and the way to it.
func measure(n api.Node) (int, api.Errno, string) {
	count := 0
	for s, m := range walk(n) {
		if e := s.entryFault(); e != api.OK {
			return 0, e, s.directory()
		}
		count++
		if e := nodeFault(m, count, s.depth()); e != api.OK {
			return 0, e, s.way()
		}
	}
	size := sizeOf(n)
	if size > api.MaxArk {
		return 0, api.ErrLarge, ""
	}
	return size, api.OK, ""
}

func isTree(n api.Node) bool {
	e, _ := Check(n)
	return e == api.OK
}

// entryFault is why the entry at which a walk has come to a node may not stand in its list.
func (s spot) entryFault() api.Errno {
	if len(s.names) == 0 {
		return api.OK
	}
	name := s.list[s.index].Name
	if !isName(name) {
		return api.ErrEntry
	}
	if s.index > 0 && name <= s.list[s.index-1].Name {
		return api.ErrOrder
	}
	return api.OK
}

// nodeFault is why a node may not stand in a tree, at that depth and as the one of that number.
func nodeFault(n api.Node, number, depth int) api.Errno {
	if number > api.MaxNodes {
		return api.ErrMany
	}
	if depth > api.MaxDepth {
		return api.ErrDeep
	}
	return fieldsFault(n)
}

// fieldsFault is why a node may stand in no tree, its entries left aside.
func fieldsFault(n api.Node) api.Errno {
	var unused bool
	switch n.Kind {
	case api.KindFile:
		unused = n.Link != "" || len(n.List) > 0
	case api.KindLink:
		unused = n.Exec || len(n.Data) > 0 || len(n.List) > 0
	case api.KindDir:
		unused = n.Exec || len(n.Data) > 0 || n.Link != ""
	default:
		return api.ErrNode
	}
	if unused {
		return api.ErrUnused
	}
	if n.Kind == api.KindLink && !isTarget(n.Link) {
		return api.ErrLink
	}
	return api.OK
}

// isName tells whether a directory's entry may have this name.
func isName(name string) bool {
	// Lengths come first: a name that is far too long is not gone through.
	return isNameLength(len(name)) && nameBar(name) < 0 && !isDots(name)
}

func isNameLength(n int) bool {
	return n >= 1 && n <= api.MaxEntry
}

// isDots tells whether a name is one of the two that every file system takes for itself.
func isDots(name string) bool {
	return name == "." || name == ".."
}

// nameBar is the place of the first byte that bars a text from being a name, or -1.
func nameBar(text string) int {
	return strings.IndexAny(text, "\x00/")
}

// isTarget tells whether a link may lead there.
func isTarget(text string) bool {
	return isTargetLength(len(text)) && targetBar(text) < 0
}

func isTargetLength(n int) bool {
	return n >= 1 && n <= api.MaxTarget
}

// targetBar is the place of the first byte that bars a text from being a link's, or -1.
func targetBar(text string) int {
	return strings.IndexByte(text, 0)
}

// isWay tells whether a text is a way: names with one slash between each two, or none at all.
func isWay(way string) bool {
	for more := way != ""; more; {
		var name string
		name, way, more = strings.Cut(way, "/")
		if !isName(name) {
			return false
		}
	}
	return true
}
