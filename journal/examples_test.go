package journal

import (
	"encoding/hex"
	"strings"
	"testing"

	"graft/api"
)

// fresh is a journal on a device without bytes.
func fresh(t *testing.T, limit int) (*Journal, *Device) {
	t.Helper()
	v := NewDevice(api.Disk{})
	j, e, file, at := Open(v, limit)
	if j == nil || e != api.OK || file != 0 || at != 0 {
		t.Fatalf("Open: %d, %d, %d", e, file, at)
	}
	return j, v
}

// Examples 1 to 3.
func TestExamplesBegin(t *testing.T) {
	j, v := fresh(t, 100)
	// Laid down by another program.
	const bytes = "9e01010000000000000008000000cc42667c0100000000000000f7df88a9" + "9e0300000000000000000000000007932b4200000000"
	if got := hex.EncodeToString(v.Disk().Files[0]); got != bytes || v.Count() != 2 || len(v.Disk().Files[1]) != 0 {
		t.Errorf("example 1: %s", got)
	}
	if s := tell(j.Story()); s != telling(0, 52, 1, 1, nil, nil) || j.Room() != 48 || j.Last() != 0 {
		t.Errorf("example 1: %s, %d, %d", s, j.Room(), j.Last())
	}
	if n, e := j.Commit(nil); n != 1 || e != api.OK || j.Room() != 22 || len(v.Disk().Files[0]) != 78 {
		t.Errorf("example 2: %d, %d", n, e)
	}
	if n, e := j.Commit(nil); n != 0 || e != api.ErrFull || v.Count() != 4 {
		t.Errorf("example 2: %d, %d", n, e)
	}
	if d, e := v.At(4, [2]int{}); e != api.OK || len(d.Files[0]) != 78 {
		t.Errorf("example 3: %d", e)
	}
	d, _ := v.At(3, [2]int{25, 0})
	if s, e, _, _ := Replay(d); e != api.OK || len(d.Files[0]) != 77 || tell(s) != telling(0, 52, 1, 1, nil, nil) {
		t.Errorf("example 3: %d, %s", e, tell(s))
	}
}

// Examples 4 to 6.
func TestExamplesCompact(t *testing.T) {
	j, v := fresh(t, 1000)
	before := len(v.Disk().Files[0])
	if n, e := j.Commit(bodiesOf("a", "bc")); n != 1 || e != api.OK || len(v.Disk().Files[0]) != before+23+24+26 {
		t.Errorf("example 4: %d, %d", n, e)
	}
	for range 6 {
		j.Commit(nil)
	}
	count := v.Count()
	if e := j.Compact(bodiesOf("s")); e != api.OK || len(v.Disk().Files[0]) != 0 || string(v.Disk().Files[1]) != headOf(2, 8)+baseOf("s") || len(v.Disk().Files[1]) != 75 {
		t.Errorf("example 5: %d", e)
	}
	d, _ := v.At(count+2, [2]int{})
	if s, e, _, _ := Replay(d); e != api.OK || len(d.Files[0]) == 0 || tell(s) != telling(1, 75, 2, 8, []string{"s"}, nil) {
		t.Errorf("example 6: %d, %s", e, tell(s))
	}
}

// Examples 7 to 9.
func TestExamplesBroken(t *testing.T) {
	for file := range 2 {
		if got := replayed(diskOf(beside(file, "\x00", "")...)); got != refusal(api.ErrJournal, file, 0) {
			t.Errorf("example 7: %v", got)
		}
		v := NewDevice(diskOf(beside(file, "\x9e123456789", "")...))
		if j, e, _, _ := Open(v, 100); e != api.OK || tell(j.Story()) != telling(0, 52, 1, 1, nil, nil) || v.Count() != 3 {
			t.Errorf("example 7: %d", e)
		}
	}
	j, v := fresh(t, 1000)
	j.Commit(bodiesOf("one"))
	j.Commit(bodiesOf("two", "three"))
	d := v.Disk()
	at := strings.Index(string(d.Files[0]), "three")
	d.Files[0][at+2] ^= 16
	if got := replayed(d); got != refusal(api.ErrRecord, 0, at-18) {
		t.Errorf("example 8: %v", got)
	}
	d = v.Disk()
	d.Files[0] = d.Files[0][:len(d.Files[0])-5]
	if s, e, _, _ := Replay(d); e != api.OK || tell(s) != telling(0, 52+25+26, 1, 1, nil, [][]string{{"one"}}) {
		t.Errorf("example 9: %d, %s", e, tell(s))
	}
}

// Example 10.
func TestExampleCut(t *testing.T) {
	for n, want := range map[int][2]string{3: {"abc", "abc"}, 6: {"abcde", "abcdef"}} {
		v := NewDevice(diskOf("abcde"))
		v.Append(0, []byte("fg"))
		v.Cut(0, n)
		safe, _ := v.At(2, [2]int{})
		if got := [2]string{filesOf(safe)[0], filesOf(v.Disk())[0]}; got != want {
			t.Errorf("example 10: Cut(0, %d): %q, want %q", n, got, want)
		}
	}
}
