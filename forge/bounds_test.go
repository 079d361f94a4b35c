package forge

import (
	"fmt"
	"slices"
	"strings"
	"testing"

	"graft/api"
	"graft/ark"
)

// room is how many bytes a file that is a tree of its own may have at most: its archive has MaxArk bytes then.
const room = api.MaxArk - 112

// bigly is a recipe whose environment has a text of so many bytes.
func bigly(n int, args ...string) api.Recipe {
	return given(plainly(args...), "big", strings.Repeat("b", n))
}

// An archive's bytes: at the bound, and one beyond; by each verb that makes them more.
func TestMostBytes(t *testing.T) {
	full := file(strings.Repeat("b", room))
	if n, e := ark.Size(full); n != api.MaxArk || e != api.OK {
		t.Fatalf("P3.2: %d, %d", n, e)
	}
	runsTo(t, bigly(room, "file out ${big}"), nil, api.OK, 0, full)
	runsTo(t, bigly(room, "file out ${big}b"), nil, api.ErrStep, 0)
	runsTo(t, bigly(room-1, "file out ${big}", "text out b"), nil, api.OK, 0, full)
	runsTo(t, bigly(room, "file out ${big}", "text out b"), nil, api.ErrStep, 1)
	runsTo(t, bigly(room, "file out ${big}", "text out "), nil, api.OK, 0, full)
	runsTo(t, bigly(room, "file out ${big}", "line out "), nil, api.ErrStep, 1)
	runsTo(t, bigly(room/2, "file out ${big}", "add out out"), nil, api.OK, 0, full)
	runsTo(t, bigly(room/2, "file out ${big}b", "add out out"), nil, api.ErrStep, 1)
	runsTo(t, bigly(room-1, "file out x${big}", "swap out x b"), nil, api.OK, 0, full)
	runsTo(t, bigly(room-1, "file out x${big}", "swap out x bb"), nil, api.ErrStep, 1)
	runsTo(t, bigly(room/2, "file out ${big}", "swap out b bb"), nil, api.OK, 0, full)
	runsTo(t, bigly(room/2+1, "file out ${big}", "swap out b bb"), nil, api.ErrStep, 1)
	runsTo(t, bigly(1<<19, "file out ${big}", "swap out b ${big}"), nil, api.ErrStep, 1)
	// An executable file's archive has 32 bytes more.
	runsTo(t, bigly(room-32, "file out ${big}", "exec out"), nil, api.OK, 0, program(strings.Repeat("b", room-32)))
	runsTo(t, bigly(room-31, "file out ${big}", "exec out"), nil, api.ErrStep, 1)
	runsTo(t, bigly(room-32, "file out ${big}", "exec out", "text out b"), nil, api.ErrStep, 2)
	runsTo(t, bigly(room-32, "file out ${big}", "exec out", "plain out", "text out b"), nil, api.OK, 0, file(strings.Repeat("b", room-31)))
}

// Trees may not grow too large, not even in between, and not tmp's either.
func TestInBetween(t *testing.T) {
	runsTo(t, bigly(room, "file tmp ${big}", "file out x"), nil, api.OK, 0, file("x"))
	runsTo(t, bigly(room, "file tmp ${big}b", "drop tmp", "file out x"), nil, api.ErrStep, 0)
	runsTo(t, bigly(room, "file out ${big}", "text out b", "swap out bb b"), nil, api.ErrStep, 1)
	runsTo(t, bigly(room, "file out ${big}", "copy tmp out", "copy out out"), nil, api.ErrStep, 2)
	runsTo(t, bigly(room, "dir out", "file tmp ${big}", "move out/a tmp", "drop out/a"), nil, api.ErrStep, 2) // the directory takes bytes too
	half := strings.Repeat("b", room/2)
	runsTo(t, bigly(room/2, "dir out", "file out/a ${big}", "copy out/b out/a"), nil, api.ErrStep, 2)
	runsTo(t, bigly(room/2-200, "dir out", "file out/a ${big}", "copy out/b out/a"), nil, api.OK, 0, dir(entry("a", file(half[200:])), entry("b", file(half[200:]))))
	// Two trees that are each at the bound.
	r := recipeOf(0, "doc out", "file doc ${big}", "copy out doc", "move tmp doc", "copy doc out")
	r = given(r, "big", strings.Repeat("b", room))
	full := file(strings.Repeat("b", room))
	runsTo(t, r, nil, api.OK, 0, full, full)
}

// dirsTo is steps for a way of so many directories, the first of which is the tree itself.
func dirsTo(root string, depth int) ([]string, string) {
	var args []string
	way := root
	for i := range depth {
		if i > 0 {
			way += "/d"
		}
		args = append(args, "dir "+way)
	}
	return args, way
}

// nested is a tree of so many directories, one in the other, with a node in the last.
func nested(depth int, n api.Entry) api.Node {
	out := dir(n)
	for range depth - 1 {
		out = dir(entry("d", out))
	}
	return out
}

// MaxDepth.
func TestDeepest(t *testing.T) {
	args, way := dirsTo("out", api.MaxDepth-1)
	runs(t, api.OK, 0, nested(api.MaxDepth-1, entry("f", file("x"))), append(args, "file "+way+"/f x")...)
	runs(t, api.OK, 0, nested(api.MaxDepth-1, entry("f", link("x"))), append(args, "link "+way+"/f x")...)
	runs(t, api.OK, 0, nested(api.MaxDepth-1, entry("f", dir())), append(args, "dir "+way+"/f")...)
	args, way = dirsTo("out", api.MaxDepth)
	for _, step := range []string{"file W/f x", "link W/f x", "dir W/f", "copy W/f tmp", "move W/f tmp", "sum W/f tmp", "list W/f tmp"} {
		fails(t, append(append([]string{"file tmp x"}, args...), strings.ReplaceAll(step, "W", way))...)
	}
	// A whole tree, copied and moved too deep.
	args, way = dirsTo("out", 16)
	for _, verb := range []string{"copy ", "move "} {
		inner, _ := dirsTo("tmp", 16)
		runs(t, api.OK, 0, nested(16, entry("t", nested(15, entry("d", dir())))), slices.Concat(inner, args, []string{verb + way + "/t tmp"})...)
		inner, _ = dirsTo("tmp", 17)
		fails(t, slices.Concat(inner, args, []string{verb + way + "/t tmp"})...)
	}
}

// MaxNodes.
func TestMostNodes(t *testing.T) {
	args := []string{"dir tmp"}
	for i := range 63 {
		args = append(args, fmt.Sprintf("file tmp/%02d ", i)) // 64 nodes
	}
	args = append(args, "dir out")
	for i := range 62 {
		args = append(args, fmt.Sprintf("copy out/%02d tmp", i)) // and 1 + 62 times 64
	}
	left := api.MaxNodes - 1 - 62*64
	for i := range left {
		args = append(args, fmt.Sprintf("link out/l%02d x", i))
	}
	trees, e, at := Run(plainly(args...), nil)
	if e != api.OK || len(ark.Flat(trees[0])) != api.MaxNodes {
		t.Fatalf("P14.2: %d, %d", e, at)
	}
	for _, step := range []string{"file out/n ", "dir out/n", "link out/n x", "copy out/n out/l00", "copy out/00/n tmp", "sum out/n out", "list out/n out"} {
		if trees, e, at := Run(plainly(append(slices.Clone(args), step)...), nil); len(trees) > 0 || e != api.ErrStep || at != len(args) {
			t.Errorf("P14.2: %s: %d, %d", step, e, at)
		}
	}
	trees, e, at = Run(plainly(append(args, "drop out/l00", "file out/n ")...), nil)
	if e != api.OK || len(ark.Flat(trees[0])) != api.MaxNodes {
		t.Errorf("P14.2: %d, %d", e, at)
	}
}

// A list that is far longer than any file may be, of a tree that is at no bound.
func TestLongList(t *testing.T) {
	name := strings.Repeat("n", 255)
	args, way := []string{"dir tmp"}, "tmp"
	for range 30 {
		way += "/" + name
		args = append(args, "dir "+way)
	}
	for i := range 140 {
		args = append(args, fmt.Sprintf("file %s/%03d ", way, i))
	}
	fails(t, append(slices.Clone(args), "list out tmp")...)
	// Just so many as fit: a line of the lists is as long as its way, a blank, a letter and a line feed.
	fits := func(files int) int {
		size := 0
		for depth := range 31 {
			size += 3 + max(0, depth*256-1)
		}
		return size + files*(3+30*256+3)
	}
	files := 0
	for fits(files+1) <= room {
		files++
	}
	short := args[:31+files]
	trees, e, at := Run(plainly(append(slices.Clone(short), "list out tmp")...), nil)
	if e != api.OK || len(trees[0].Data) != fits(files) {
		t.Errorf("P14.2: %d, %d", e, at)
	}
	fails(t, append(slices.Clone(args[:31+files+1]), "list out tmp")...)
}
