package desk

import (
	"fmt"
	"reflect"
	"testing"

	"graft/api"
)

// Both readings of the chapter, held against each other.

// stateOf is all that a play leaves behind: its stores' devices byte by byte, its depot, its keys, its nicks and what is staged.
func stateOf(w *world) string {
	out := ""
	for _, s := range w.stores {
		d := s.device.Disk()
		out += fmt.Sprintf("%d %s %s\n", s.device.Count(), plainSum(d.Files[0]), plainSum(d.Files[1]))
	}
	nicks := map[string]api.Label{}
	for n, l := range w.nicks.first {
		nicks[n] = l
	}
	for n, l := range w.nicks.second {
		nicks[n+"!"] = l
	}
	return out + fmt.Sprint(w.present+1, showFiles(w.files), w.keys, nicks, showObjects(w.staged), w.known)
}

func plainStateOf(w *plainWorld) string {
	out := ""
	for _, v := range w.devices[1:] {
		d := v.Disk()
		out += fmt.Sprintf("%d %s %s\n", v.Count(), plainSum(d.Files[0]), plainSum(d.Files[1]))
	}
	return out + fmt.Sprint(w.now, showFiles(w.files), w.keys, w.nicks, showObjects(w.staged), w.known)
}

func showFiles(files []api.DepotFile) string {
	out := ""
	for _, f := range files {
		out += fmt.Sprintf("%q %s\n", f.Name, plainSum(f.Data))
	}
	return out
}

func showObjects(objects []api.Object) string {
	out := ""
	for _, o := range objects {
		out += fmt.Sprintln(plainBase(o.Label), len(o.Refs), plainSum(o.Ark), o.Maker, o.Ca)
	}
	return out
}

// both plays commands by the program and by the plain reading, and holds the answers and what is left behind against each other.
func both(t *testing.T, commands string) (string, api.Errno, int) {
	t.Helper()
	plain, e, line := plainPlay(commands)
	w := newWorld()
	gotE, gotLine := w.play(commands, new(book))
	if w.out.String() != plain.text || gotE != e || gotLine != line {
		t.Fatalf("P18.1: %s\n%d in line %d behind\n%s\nwant %d in line %d behind\n%s", commands, gotE, gotLine, w.out.String(), e, line, plain.text)
	}
	if a, b := stateOf(w), plainStateOf(plain); a != b {
		t.Fatalf("P18.1: %s\nleaves\n%s\nwant\n%s", commands, a, b)
	}
	text, faceE, faceLine := Play(commands)
	if !reflect.DeepEqual([]any{text, faceE, faceLine}, []any{plain.text, e, line}) {
		t.Fatalf("P18.1: Play(%s) = %q, %d, %d; want %q, %d, %d", commands, text, faceE, faceLine, plain.text, e, line)
	}
	return text, faceE, faceLine
}
