package journal

import (
	"fmt"
	"math"
	"strings"
	"testing"

	"graft/api"
)

// P11.1: what is handed in is all safe, and no operation was done.
func TestNewDevice(t *testing.T) {
	for _, files := range [][2]string{{}, {"abc", ""}, {"", "d"}, {"abc", "de"}} {
		v := NewDevice(diskOf(files[:]...))
		if v.Count() != 0 || filesOf(v.Disk()) != files {
			t.Errorf("P11.1: %d, %q, want %q", v.Count(), filesOf(v.Disk()), files)
		}
		if d, e := v.At(0, [2]int{}); e != api.OK || filesOf(d) != files {
			t.Errorf("P11.1: At(0) = %q, %d, want %q", filesOf(d), e, files)
		}
		holdDevice(t, "new", v, plainDeviceOf(files))
	}
}

// P11.2: each operation on files that are none, and on both that are.
func TestOperationsFile(t *testing.T) {
	for _, file := range []int{math.MinInt, -1, 0, 1, 2, 3, math.MaxInt} {
		v, p := NewDevice(diskOf("abc", "def")), plainDeviceOf([2]string{"abc", "def"})
		want := api.ErrArg
		if file == 0 || file == 1 {
			want = api.OK
		}
		for i, e := range []api.Errno{v.Append(file, []byte("x")), v.Append(file, nil), v.Sync(file), v.Cut(file, 2), v.Cut(file, 0)} {
			if e != want {
				t.Errorf("P11.2: operation %d on file %d: %d, want %d", i, file, e, want)
			}
		}
		p.append(file, "x")
		p.append(file, "")
		p.sync(file)
		p.cut(file, 2)
		p.cut(file, 0)
		holdDevice(t, fmt.Sprint("file ", file), v, p)
	}
}

// P11.2: an Append that is too long is refused, of a file that is none too: ErrArg.
func TestAppendFileAheadOfLength(t *testing.T) {
	v := NewDevice(api.Disk{})
	if e := v.Append(2, make([]byte, api.MaxRoom+1)); e != api.ErrArg || v.Count() != 0 {
		t.Errorf("P11.2: %d", e)
	}
}

// P11.2: a file has up to 67108864 bytes.
func TestAppendLimit(t *testing.T) {
	for file := range 2 {
		v := NewDevice(api.Disk{})
		great := make([]byte, 67108864)
		great[67108863] = 7
		for _, c := range []struct {
			size int
			want api.Errno
		}{{67108864 + 1, api.ErrLong}, {67108864 - 1, api.OK}, {2, api.ErrLong}, {67108864, api.ErrLong}, {1, api.OK}, {0, api.OK}, {1, api.ErrLong}} {
			before := v.Count()
			var p []byte
			if c.size > len(great) {
				p = make([]byte, c.size)
			} else {
				p = great[len(great)-c.size:]
			}
			if e := v.Append(file, p); e != c.want || (v.Count() != before) != (e == api.OK) {
				t.Errorf("P11.2: Append of %d bytes: %d, want %d; %d operations", c.size, e, c.want, v.Count())
			}
		}
		if e := v.Append(1-file, []byte("x")); e != api.OK {
			t.Errorf("P11.2: the other file: %d", e)
		}
		d := v.Disk()
		if f := d.Files[file]; len(f) != 67108864 || f[67108863] != 7 || f[67108862] != 7 || string(d.Files[1-file]) != "x" {
			t.Errorf("P11.2: %d bytes", len(f))
		}
		if e := v.Cut(file, 67108863); e != api.OK {
			t.Errorf("P11.2: Cut: %d", e)
		}
		if e := v.Append(file, []byte("y")); e != api.OK {
			t.Errorf("P11.2: behind a Cut: %d", e)
		}
	}
}

// P11.2: a file that was handed in with more bytes takes none, not even no bytes.
func TestAppendBeyond(t *testing.T) {
	v := NewDevice(api.Disk{Files: [2][]byte{make([]byte, api.MaxRoom+1), nil}})
	if e := v.Append(0, nil); e != api.ErrLong || v.Count() != 0 {
		t.Errorf("P11.2: %d", e)
	}
	if a, b, c := v.Sync(0), v.Cut(0, api.MaxRoom), v.Append(0, nil); a != api.OK || b != api.OK || c != api.OK || v.Count() != 3 {
		t.Errorf("P11.2: %d, %d, %d", a, b, c)
	}
}

// P11.2: Cut at every place of a file with safe and loose bytes.
func TestCutPlaces(t *testing.T) {
	for n := -2; n <= 9; n++ {
		for _, more := range []string{"", "xyz"} {
			v, p := NewDevice(diskOf("ab", "Q")), plainDeviceOf([2]string{"ab", "Q"})
			v.Append(0, []byte("cde"))
			v.Sync(0)
			v.Append(0, []byte("fg"))
			p.append(0, "cde")
			p.sync(0)
			p.append(0, "fg")
			want := api.OK
			if n < 0 || n > 7 {
				want = api.ErrArg
			}
			if e, plain := v.Cut(0, n), p.cut(0, n); e != want || plain != want {
				t.Errorf("P11.2: Cut(0, %d) = %d, %d, want %d", n, e, plain, want)
			}
			v.Append(0, []byte(more))
			p.append(0, more)
			holdDevice(t, fmt.Sprint("cut at ", n), v, p)
		}
	}
	for _, n := range []int{math.MinInt, math.MaxInt} {
		v := NewDevice(diskOf("ab", "Q"))
		if e := v.Cut(0, n); e != api.ErrArg || v.Count() != 0 {
			t.Errorf("P11.2: Cut(0, %d) = %d", n, e)
		}
	}
}

// P11.2: operations that change nothing are counted.
func TestCounted(t *testing.T) {
	v := NewDevice(diskOf("abc", ""))
	for i, do := range []func() api.Errno{
		func() api.Errno { return v.Append(0, nil) },
		func() api.Errno { return v.Append(1, []byte{}) },
		func() api.Errno { return v.Sync(0) },
		func() api.Errno { return v.Sync(1) },
		func() api.Errno { return v.Cut(0, 3) },
		func() api.Errno { return v.Cut(1, 0) },
	} {
		if e := do(); e != api.OK || v.Count() != i+1 || filesOf(v.Disk()) != [2]string{"abc", ""} {
			t.Errorf("P11.2: operation %d: %d, %d", i, e, v.Count())
		}
	}
}

// P11.3: for each file alone, and nothing is changed by asking.
func TestAtKeep(t *testing.T) {
	v := NewDevice(diskOf("a", "b"))
	v.Append(0, []byte("cd"))
	v.Append(1, []byte("efg"))
	for range 2 {
		for _, c := range []struct {
			n    int
			keep [2]int
			e    api.Errno
			want [2]string
		}{
			{-1, [2]int{}, api.ErrArg, [2]string{}}, {3, [2]int{}, api.ErrArg, [2]string{}}, {math.MinInt, [2]int{}, api.ErrArg, [2]string{}},
			{math.MaxInt, [2]int{}, api.ErrArg, [2]string{}},
			{2, [2]int{-1, 0}, api.ErrArg, [2]string{}}, {2, [2]int{0, -1}, api.ErrArg, [2]string{}}, {0, [2]int{math.MinInt, 0}, api.ErrArg, [2]string{}},
			{0, [2]int{9, 9}, api.OK, [2]string{"a", "b"}}, {1, [2]int{1, 9}, api.OK, [2]string{"ac", "b"}},
			{1, [2]int{9, 0}, api.OK, [2]string{"acd", "b"}}, {2, [2]int{}, api.OK, [2]string{"a", "b"}},
			{2, [2]int{2, 0}, api.OK, [2]string{"acd", "b"}}, {2, [2]int{0, 2}, api.OK, [2]string{"a", "bef"}},
			{2, [2]int{1, 3}, api.OK, [2]string{"ac", "befg"}}, {2, [2]int{math.MaxInt, math.MaxInt}, api.OK, [2]string{"acd", "befg"}},
		} {
			if d, e := v.At(c.n, c.keep); e != c.e || filesOf(d) != c.want {
				t.Errorf("P11.3: At(%d, %v) = %q, %d, want %q, %d", c.n, c.keep, filesOf(d), e, c.want, c.e)
			}
		}
		if v.Count() != 2 || filesOf(v.Disk()) != [2]string{"acd", "befg"} {
			t.Errorf("P11.3: asking has changed it: %d, %q", v.Count(), filesOf(v.Disk()))
		}
	}
}

// P11.2 and P11.3: any operations, at every moment of them.
func TestDeviceAnyOperations(t *testing.T) {
	r := sourceOf(1)
	for range 300 {
		files := [2]string{strings.Repeat("p", r.IntN(4)), strings.Repeat("q", r.IntN(4))}
		v, p := NewDevice(diskOf(files[:]...)), plainDeviceOf(files)
		for step := range 1 + r.IntN(25) {
			file := r.IntN(2)
			if r.IntN(10) == 0 {
				file = r.IntN(4) - 1
			}
			var e, want api.Errno
			switch r.IntN(5) {
			case 0, 1:
				text := strings.Repeat(string(rune('a'+step)), r.IntN(6))
				e, want = v.Append(file, []byte(text)), p.append(file, text)
			case 2:
				e, want = v.Sync(file), p.sync(file)
			default:
				n := r.IntN(len(p.now().files[file&1])+3) - 1
				e, want = v.Cut(file, n), p.cut(file, n)
			}
			if e != want || v.Count() != p.count() || filesOf(v.Disk()) != p.now().files {
				t.Fatalf("P11.2: step %d: %d, want %d; %q, want %q", step, e, want, filesOf(v.Disk()), p.now().files)
			}
		}
		holdDevice(t, "any operations", v, p)
	}
}

// P11.10.
func TestNilDevice(t *testing.T) {
	var v *Device
	for _, file := range []int{-1, 0, 1, 2} {
		if a, b, c := v.Append(file, []byte("x")), v.Sync(file), v.Cut(file, 5); a != api.OK || b != api.OK || c != api.OK {
			t.Errorf("P11.10: file %d: %d, %d, %d", file, a, b, c)
		}
	}
	if d := v.Disk(); v.Count() != 0 || d.Files[0] != nil || d.Files[1] != nil {
		t.Errorf("P11.10: %d, %v", v.Count(), d)
	}
	for _, n := range []int{-1, 0, 1} {
		if d, e := v.At(n, [2]int{-1, 1}); e != api.OK || d.Files[0] != nil || d.Files[1] != nil {
			t.Errorf("P11.10: At(%d) = %v, %d", n, d, e)
		}
	}
}

// A device that was not made by NewDevice is one without bytes.
func TestZeroDevice(t *testing.T) {
	v := &Device{}
	if v.Append(1, []byte("x")) != api.OK || v.Count() != 1 || filesOf(v.Disk()) != [2]string{"", "x"} {
		t.Errorf("%d, %q", v.Count(), filesOf(v.Disk()))
	}
}

// Two devices have nothing in common, made of one disk or one of the other's.
func TestDevicesApart(t *testing.T) {
	v := NewDevice(diskOf("ab", "c"))
	w := NewDevice(v.Disk())
	v.Append(0, []byte("x"))
	w.Append(0, []byte("yz"))
	v.Cut(1, 0)
	if filesOf(v.Disk()) != [2]string{"abx", ""} || filesOf(w.Disk()) != [2]string{"abyz", "c"} || v.Count() != 2 || w.Count() != 1 {
		t.Errorf("%q, %q", filesOf(v.Disk()), filesOf(w.Disk()))
	}
}
