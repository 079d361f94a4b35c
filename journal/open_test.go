package journal

import (
	"fmt"
	"math"
	"testing"

	"graft/api"
)

// P11.6: a device that is none, and limits at and beyond their bounds.
func TestOpenArguments(t *testing.T) {
	for _, limit := range []int{math.MinInt, -1, 0, 1, 63, 64, 65, 67108864, 67108864 + 1, math.MaxInt} {
		v := NewDevice(api.Disk{})
		j, e, file, at := Open(v, limit)
		if limit >= 64 && limit <= 67108864 {
			if j == nil || e != api.OK || file != 0 || at != 0 || v.Count() != 2 || j.Room() != limit-52 {
				t.Errorf("P11.6: limit %d: %d, %d, %d", limit, e, file, at)
			}
		} else if j != nil || e != api.ErrArg || file != 0 || at != 0 || v.Count() != 0 {
			t.Errorf("P11.6: limit %d: %d, %d, %d, want ErrArg", limit, e, file, at)
		}
		if j, e, file, at := Open(nil, limit); j != nil || e != api.ErrArg || file != 0 || at != 0 {
			t.Errorf("P11.6: no device, limit %d: %d, %d, %d, want ErrArg", limit, e, file, at)
		}
	}
}

// P11.6: the limit is asked for ahead of what the disk holds.
func TestOpenArgumentsFirst(t *testing.T) {
	v := NewDevice(diskOf("\x00", "\x00"))
	if j, e, file, at := Open(v, 63); j != nil || e != api.ErrArg || file != 0 || at != 0 {
		t.Errorf("P11.6: %d, %d, %d", e, file, at)
	}
}

// P11.6: Replay's error, file and place, and nothing is done.
func TestOpenRefused(t *testing.T) {
	whole := headOf(1, 1) + baseOf() + batchOf(1, "x")
	for _, files := range [][2]string{
		{"\x00", ""}, {"", "\x00"}, {whole, "\x00"}, {whole + "\x00", ""}, {"\x9e", whole + commitOf(1, 0)}, {whole, whole},
		{headOf(0, 1), ""}, {whole, headOf(1, 0)}, {whole + "\x9e", headOf(2, 1) + "\x00"},
	} {
		want := plainReplay(files)
		v := NewDevice(diskOf(files[:]...))
		v.Append(1, nil)
		j, e, file, at := Open(v, 1000)
		if want.e == api.OK || j != nil || e != want.e || file != want.file || at != want.at {
			t.Errorf("P11.6: Open(%q) = %d, %d, %d, want %v", files, e, file, at, want)
		}
		if v.Count() != 1 || filesOf(v.Disk()) != files {
			t.Errorf("P11.6: Open(%q) has done %d operations", files, v.Count()-1)
		}
	}
}

func TestOpenTooLong(t *testing.T) {
	v := NewDevice(api.Disk{Files: [2][]byte{nil, make([]byte, api.MaxRoom+1)}})
	if j, e, file, at := Open(v, 1000); j != nil || e != api.ErrLong || file != 1 || at != 0 || v.Count() != 0 {
		t.Errorf("P11.6: %d, %d, %d", e, file, at)
	}
}

// P11.6: which operations are done, and in which order, whichever of the files is live.
func TestOpenOperations(t *testing.T) {
	whole := headOf(4, 3) + baseOf("b") + batchOf(3, "x", "y") + batchOf(4)
	tail := rec(4, 0, "more")
	for what, c := range map[string]struct {
		data, other string
		operations  int
	}{
		"all as it should be":              {whole, "", 0},
		"a base alone":                     {headOf(4, 3) + baseOf(), "", 0},
		"a torn end":                       {whole + tail[:20], "", 1},
		"payloads without a commit":        {whole + tail, "", 1},
		"an end of one byte":               {whole + "\x9e", "", 1},
		"a dead other one":                 {whole, headOf(5, 1), 1},
		"a torn other one":                 {whole, "\x9e", 1},
		"an older one":                     {whole, headOf(3, 1) + baseOf("old"), 1},
		"a torn end and a dead other":      {whole + tail, headOf(9, 9), 2},
		"a torn end and an older one":      {whole + tail, headOf(3, 1) + baseOf(), 2},
		"nothing":                          {"", "", 2},
		"a dead one":                       {headOf(1, 1), "", 3},
		"two dead ones":                    {headOf(1, 1), headOf(1, 1) + rec(2, 0, "b"), 4},
		"the beginnings of two":            {"\x9e", "\x9e\x01", 4},
		"a dead one as another would be":   {(headOf(1, 1) + baseOf())[:51], "", 3},
		"a live one beside its beginnings": {headOf(1, 1) + baseOf(), (headOf(2, 1) + baseOf())[:51], 1},
	} {
		for file := range 2 {
			files := [2]string(beside(file, c.data, c.other))
			b := openBoth(t, files, 500)
			if b.v.Count() != c.operations {
				t.Errorf("P11.6: %s: %d operations, want %d", what, b.v.Count(), c.operations)
			}
			b.commit("later")
			b.hold(what)
			b.compact("sum")
			b.hold(what)
		}
	}
}

// P11.6: each operation of an opening, one by one.
func TestOpenOneByOne(t *testing.T) {
	whole := headOf(4, 3) + baseOf("b")
	v := NewDevice(diskOf("\x9e", whole+"\x9e"))
	Open(v, 100)
	for n, want := range [][2]string{{"\x9e", whole + "\x9e"}, {"\x9e", whole}, {"", whole}} {
		if d, e := v.At(n, [2]int{99, 99}); e != api.OK || filesOf(d) != want {
			t.Errorf("P11.6: behind %d operations: %q, want %q", n, filesOf(d), want)
		}
	}
	v = NewDevice(diskOf("\x9e", "\x9e\x01"))
	Open(v, 100)
	fresh := headOf(1, 1) + baseOf()
	for n, want := range [][2]string{{"\x9e", "\x9e\x01"}, {"", "\x9e\x01"}, {"", ""}, {fresh, ""}, {fresh, ""}} {
		d, e := v.At(n, [2]int{99, 99})
		safe, _ := v.At(n, [2]int{})
		if e != api.OK || filesOf(d) != want || (filesOf(safe) != want) != (n == 3) {
			t.Errorf("P11.6: behind %d operations: %q, %q safe, want %q", n, filesOf(d), filesOf(safe), want)
		}
	}
	if v.Count() != 4 {
		t.Errorf("P11.6: %d operations", v.Count())
	}
}

// P11.6, P11.9: a file may have more bytes than the limit: there is no room, but for a Compact.
func TestOpenBeyondLimit(t *testing.T) {
	whole := headOf(1, 1) + baseOf() + batchOf(1, "a long payload, longer than the limit allows for")
	for limit := 64; limit <= len(whole)+30; limit++ {
		b := openBoth(t, [2]string{whole, ""}, limit)
		if want := max(0, limit-len(whole)); b.j.Room() != want {
			t.Errorf("P11.9: Room %d, want %d", b.j.Room(), want)
		}
		if e := b.commit(); (e == api.ErrFull) != (limit < len(whole)+26) {
			t.Errorf("P11.7: limit %d: %d", limit, e)
		}
		if e := b.compact("s"); (e == api.ErrFull) != (limit < 75) {
			t.Errorf("P11.8: limit %d: %d", limit, e)
		}
		b.hold(fmt.Sprint("limit ", limit))
	}
}

// P11.6: a journal that is opened over the bytes of another one's device tells the same.
func TestOpenAgain(t *testing.T) {
	b := openBoth(t, [2]string{}, 1000)
	b.commit("a")
	b.compact("b", "c")
	b.commit("d", "e")
	b.commit()
	again := openBoth(t, filesOf(b.v.Disk()), 1000)
	if again.v.Count() != 0 || tell(again.j.Story()) != tell(b.j.Story()) || again.j.Last() != b.j.Last() || again.j.Room() != b.j.Room() {
		t.Errorf("P11.6: %s, want %s", tell(again.j.Story()), tell(b.j.Story()))
	}
}
