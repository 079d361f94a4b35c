package ark

import (
	"slices"
	"strings"

	"graft/api"
)

// Flat lays a tree flat, in the order of its archive.
func Flat(n api.Node) []api.File {
	var files []api.File
	for way, m := range Each(n) {
		files = append(files, api.File{Way: way, Kind: m.Kind, Exec: m.Exec, Data: m.Data, Link: m.Link})
	}
	return files
}

// Unflat makes a tree of files: OK, or the error and the number of the file.
func Unflat(files []api.File) (api.Node, api.Errno, int) {
	if len(files) > api.MaxNodes {
		return api.Node{}, api.ErrMany, api.MaxNodes
	}
	places, e, at := placesOf(files)
	if e != api.OK {
		return api.Node{}, e, at
	}
	g, e, at := growthOf(files, places)
	if e != api.OK {
		return api.Node{}, e, at
	}
	root, there := places[""]
	if !there {
		return api.Node{}, api.ErrNone, len(files)
	}
	n := g.node(root)
	if sizeOf(n) > api.MaxArk {
		return api.Node{}, api.ErrLarge, len(files)
	}
	return clone(n), api.OK, 0
}

// placesOf is the files' numbers by their ways, or the first file that may not be.
func placesOf(files []api.File) (map[string]int, api.Errno, int) {
	places := make(map[string]int, len(files))
	for i, f := range files {
		if e := fileFault(f); e != api.OK {
			return nil, e, i
		}
		if _, there := places[f.Way]; there {
			return nil, api.ErrOrder, i
		}
		places[f.Way] = i
	}
	return places, api.OK, 0
}

// fileFault is why a file may stand in no list of files.
func fileFault(f api.File) api.Errno {
	if !isWay(f.Way) {
		return api.ErrEntry
	}
	if f.Way != "" && strings.Count(f.Way, "/")+1 >= api.MaxDepth {
		return api.ErrDeep
	}
	return fieldsFault(nodeOf(f))
}

// nodeOf is a file as a node without entries; both have the same bytes.
func nodeOf(f api.File) api.Node {
	return api.Node{Kind: f.Kind, Exec: f.Exec, Data: f.Data, Link: f.Link}
}

// growth is files, and of each the numbers of those that stand in it.
type growth struct {
	files  []api.File
	inside [][]int
}

// growthOf lays down in which directory each file stands, or is the first for which there is none.
func growthOf(files []api.File, places map[string]int) (growth, api.Errno, int) {
	g := growth{files, make([][]int, len(files))}
	for i, f := range files {
		if f.Way == "" {
			continue
		}
		directory, _ := splitWay(f.Way)
		at, there := places[directory]
		if !there || files[at].Kind != api.KindDir {
			return growth{}, api.ErrNone, i
		}
		g.inside[at] = append(g.inside[at], i)
	}
	return g, api.OK, 0
}

// splitWay is the way of the directory in which a node stands, and the node's name there.
func splitWay(way string) (string, string) {
	slash := strings.LastIndexByte(way, '/')
	return way[:max(slash, 0)], way[slash+1:]
}

// node is the tree from a file on. It has the files' own bytes: these may be far more than an archive can hold.
func (g growth) node(number int) api.Node {
	n := nodeOf(g.files[number])
	for _, i := range g.inside[number] {
		_, name := splitWay(g.files[i].Way)
		n.List = append(n.List, api.Entry{Name: name, Node: g.node(i)})
	}
	slices.SortFunc(n.List, func(x, y api.Entry) int { return strings.Compare(x.Name, y.Name) })
	return n
}
