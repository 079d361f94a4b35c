package journal

import (
	"fmt"
	"math/rand/v2"
	"strings"
	"testing"

	"graft/api"
)

// P11.7: no payloads, payloads without bytes, and some.
func TestCommit(t *testing.T) {
	b := openBoth(t, [2]string{}, 10000)
	for i, batch := range [][]string{nil, {}, {""}, {"", ""}, {"a"}, {"a", "bc"}, {"", "x", ""}, {strings.Repeat("long", 100)}, {"\x9e", "\x00"}} {
		before := b.v.Count()
		n, e := b.j.Commit(bodiesOf(batch...))
		b.p.commit(batch)
		if n != i+1 || e != api.OK || b.v.Count() != before+2 {
			t.Errorf("P11.7: Commit(%q) = %d, %d; %d operations", batch, n, e, b.v.Count()-before)
		}
		b.hold(fmt.Sprintf("Commit(%q)", batch))
	}
}

// P11.7: to the last byte of the room, and one beyond; what is refused changes nothing.
func TestCommitRoom(t *testing.T) {
	for size := range 60 {
		b := openBoth(t, [2]string{}, 152) // 100 bytes of room: a commit of 26, a payload of 22 and its bytes
		before := b.v.Count()
		want := api.OK
		if size > 52 {
			want = api.ErrFull
		}
		if e := b.commit(strings.Repeat("x", size)); e != want || (e != api.OK) != (b.v.Count() == before) {
			t.Errorf("P11.7: %d bytes: %d, want %d", size, e, want)
		}
		b.hold(fmt.Sprint(size, " bytes"))
		b.commit()
		b.hold("another one")
	}
}

// P11.7, P11.8: 8192 bodies, and one more.
func TestMany(t *testing.T) {
	b := openBoth(t, [2]string{}, api.MaxRoom)
	bodies := make([]string, 8193)
	for i := range bodies {
		bodies[i] = fmt.Sprint(i)
	}
	for _, n := range []int{8191, 8192, 8193} {
		want := api.OK
		if n > 8192 {
			want = api.ErrLong
		}
		if e := b.commit(bodies[:n]...); e != want {
			t.Errorf("P11.7: %d payloads: %d, want %d", n, e, want)
		}
		if e := b.compact(bodies[:n]...); e != want {
			t.Errorf("P11.8: %d bodies: %d, want %d", n, e, want)
		}
		holdJournal(t, fmt.Sprint(n, " bodies"), b.j, b.p)
	}
	if filesOf(b.v.Disk()) != b.p.device.now().files || b.v.Count() != b.p.device.count() {
		t.Error("P11.7: the disks differ")
	}
}

// P11.7, P11.8: bodies of 2097152 bytes, and of one more, wherever they stand.
func TestLong(t *testing.T) {
	great := strings.Repeat("g", 2097153)
	for _, c := range []struct {
		bodies []string
		want   api.Errno
	}{
		{[]string{great[1:]}, api.OK}, {[]string{great}, api.ErrLong}, {[]string{"a", great}, api.ErrLong}, {[]string{great, "a"}, api.ErrLong},
		{[]string{great[1:], "a", great[1:]}, api.OK},
	} {
		b := openBoth(t, [2]string{}, api.MaxRoom)
		if e := b.commit(c.bodies...); e != c.want {
			t.Errorf("P11.7: %d payloads: %d, want %d", len(c.bodies), e, c.want)
		}
		if e := b.compact(c.bodies...); e != c.want {
			t.Errorf("P11.8: %d bodies: %d, want %d", len(c.bodies), e, c.want)
		}
		holdJournal(t, "long bodies", b.j, b.p)
		if filesOf(b.v.Disk()) != b.p.device.now().files || b.v.Count() != b.p.device.count() {
			t.Error("P11.7: the disks differ")
		}
	}
}

// P11.7, P11.8: what is too long is told ahead of numbers that are used up, and these ahead of a full file.
func TestOrderOfErrors(t *testing.T) {
	great := make([]byte, 2097153)
	used := headOf(most, most) + baseOf() + batchOf(most)
	v := NewDevice(diskOf(used, ""))
	j, _, _, _ := Open(v, 64)
	for _, c := range []struct {
		bodies [][]byte
		want   api.Errno
	}{{[][]byte{great}, api.ErrLong}, {make([][]byte, 8193), api.ErrLong}, {[][]byte{great[1:]}, api.ErrEnd}, {nil, api.ErrEnd}} {
		if n, e := j.Commit(c.bodies); n != 0 || e != c.want {
			t.Errorf("P11.7: %d, %d, want %d", n, e, c.want)
		}
		if e := j.Compact(c.bodies); e != c.want {
			t.Errorf("P11.8: %d, want %d", e, c.want)
		}
	}
	if v.Count() != 0 || filesOf(v.Disk()) != [2]string{used, ""} {
		t.Errorf("P11.7: %d operations", v.Count())
	}
	j, _, _, _ = Open(NewDevice(api.Disk{}), 64)
	for _, c := range []struct {
		bodies [][]byte
		want   api.Errno
	}{{[][]byte{great}, api.ErrLong}, {make([][]byte, 8193), api.ErrLong}, {[][]byte{great[1:]}, api.ErrFull}, {make([][]byte, 8192), api.ErrFull}} {
		if n, e := j.Commit(c.bodies); n != 0 || e != c.want {
			t.Errorf("P11.7: %d, %d, want %d", n, e, c.want)
		}
		if e := j.Compact(c.bodies); e != c.want {
			t.Errorf("P11.8: %d, want %d", e, c.want)
		}
	}
}

// P11.7: a batch whose bodies are one piece of memory may be greater than memory is: it is full, and no bytes are laid.
func TestSharedBodies(t *testing.T) {
	shared := make([]byte, 2097152)
	bodies := make([][]byte, 8192)
	for i := range bodies {
		bodies[i] = shared
	}
	j, _, _, _ := Open(NewDevice(api.Disk{}), api.MaxRoom)
	if n, e := j.Commit(bodies); n != 0 || e != api.ErrFull {
		t.Errorf("P11.7: %d, %d", n, e)
	}
	if e := j.Compact(bodies); e != api.ErrFull {
		t.Errorf("P11.8: %d", e)
	}
}

// P11.7, P11.8: numbers and generations up to their last.
func TestLastNumbers(t *testing.T) {
	for _, c := range []struct {
		gen, first uint64
		commits    int // that are left
		compacts   int
	}{{1, most, 1, 3}, {1, most - 1, 2, 3}, {most, 5, 3, 0}, {most - 1, 5, 3, 1}, {most, most, 1, 0}} {
		files := [2]string{headOf(c.gen, c.first) + baseOf(), ""}
		b := openBoth(t, files, 1000)
		for i := range 3 {
			want := api.OK
			if i >= c.commits {
				want = api.ErrEnd
			}
			if e := b.commit("x"); e != want {
				t.Errorf("P11.7: generation %d, first %d: Commit %d: %d, want %d", c.gen, c.first, i, e, want)
			}
			b.hold("Commit")
		}
		want := api.ErrEnd
		if c.commits == 3 && c.compacts > 0 { // the next batch's number may be
			want = api.OK
		}
		if e := b.compact("y"); e != want {
			t.Errorf("P11.8: generation %d, first %d: %d, want %d", c.gen, c.first, e, want)
		}
		b.hold("Compact")
		b = openBoth(t, files, 1000)
		for i := range 3 {
			want := api.OK
			if i >= c.compacts {
				want = api.ErrEnd
			}
			if e := b.compact("y"); e != want {
				t.Errorf("P11.8: generation %d, first %d: Compact %d: %d, want %d", c.gen, c.first, i, e, want)
			}
			b.hold("Compact")
		}
		if b.j.Last() != int(c.first)-1 {
			t.Errorf("P11.13: Last %d", b.j.Last())
		}
	}
}

// P11.8: to the last byte of the limit, and one beyond; P11.13.
func TestCompactRoom(t *testing.T) {
	for size := range 60 {
		b := openBoth(t, [2]string{}, 152) // 52 bytes and 22 for a body: 78 for its bytes
		b.commit("gone")
		before, last := b.v.Count(), b.j.Last()
		bodies := []string{strings.Repeat("x", 30), strings.Repeat("y", size)}
		want := api.OK
		if size > 26 {
			want = api.ErrFull
		}
		if e := b.compact(bodies...); e != want || (e == api.OK && b.v.Count() != before+3) || (e != api.OK && b.v.Count() != before) {
			t.Errorf("P11.8: %d bytes: %d, want %d; %d operations", size, e, want, b.v.Count()-before)
		}
		if b.j.Last() != last || (want == api.OK) != (len(b.j.Story().Batches) == 0) {
			t.Errorf("P11.13: Last %d, want %d", b.j.Last(), last)
		}
		b.hold(fmt.Sprint(size, " bytes"))
	}
}

// P11.8, P11.13: Compact behind Compact, the files in turn.
func TestCompactInTurn(t *testing.T) {
	b := openBoth(t, [2]string{}, 400)
	for i, base := range [][]string{nil, {"a"}, {"", ""}, {"b", "c", "d"}, {}} {
		if e := b.compact(base...); e != api.OK {
			t.Fatalf("P11.8: %d", e)
		}
		s := b.j.Story()
		if s.File != (i+1)%2 || s.Gen != i+2 || s.First != 2*i+1 || len(s.Batches) != 0 || fmt.Sprint(textsOf(s.Base)) != fmt.Sprint(base) {
			t.Errorf("P11.13: %s", tell(s))
		}
		b.hold(fmt.Sprintf("Compact(%q)", base))
		b.commit("x", "y")
		b.commit("z")
		b.hold("Commit")
	}
}

// anyBodies is few and small bodies.
func anyBodies(r *rand.Rand) []string {
	out := make([]string, r.IntN(4))
	for i := range out {
		out[i] = strings.Repeat(string(rune('a'+i)), r.IntN(30))
	}
	return out
}

// P11.6 to P11.9: any calls, of journals that are closed and opened again with another limit.
func TestAnyCalls(t *testing.T) {
	r := sourceOf(3)
	seen := map[string]int{}
	for range 300 {
		b := openBoth(t, [2]string{}, 64+r.IntN(600))
		for range r.IntN(15) {
			switch r.IntN(6) {
			case 0:
				seen[fmt.Sprint("Compact ", b.compact(anyBodies(r)...))]++
			case 1:
				b = openBoth(t, filesOf(b.v.Disk()), 64+r.IntN(600))
			default:
				seen[fmt.Sprint("Commit ", b.commit(anyBodies(r)...))]++
			}
			holdJournal(t, "any calls", b.j, b.p)
		}
		b.hold("any calls")
	}
	if seen["Compact 0"] < 50 || seen["Compact 5"] < 10 || seen["Commit 0"] < 50 || seen["Commit 5"] < 50 {
		t.Errorf("few of a kind: %v", seen)
	}
}

// P11.7, P11.5: a file with as many bytes as a file may have is taken; no more comes into it.
func TestWholeRoom(t *testing.T) {
	v := NewDevice(api.Disk{})
	j, _, _, _ := Open(v, api.MaxRoom)
	great := make([][]byte, 31) // 31 records of 2097174 bytes, and one that fills up the room
	for i := range great {
		great[i] = make([]byte, 2097152)
		great[i][5] = byte(i)
	}
	rest := 67108864 - 52 - 31*(2097152+22) - 22 - 26
	for _, c := range []struct {
		size int
		want api.Errno
	}{{rest + 1, api.ErrFull}, {rest, api.OK}} {
		if n, e := j.Commit(append(great[:31:31], make([]byte, c.size))); e != c.want || (n == 1) != (e == api.OK) {
			t.Errorf("P11.7: %d, %d, want %d", n, e, c.want)
		}
	}
	if n, e := j.Commit(nil); n != 0 || e != api.ErrFull || j.Room() != 0 || v.Count() != 4 {
		t.Errorf("P11.7: %d, %d", n, e)
	}
	s, e, file, at := Replay(v.Disk())
	if e != api.OK || file != 0 || at != 0 || s.Good != 67108864 || len(s.Batches) != 1 || len(s.Batches[0]) != 32 || s.Batches[0][30][5] != 30 {
		t.Fatalf("P11.5: %d, %d, %d; good %d", e, file, at, s.Good)
	}
	if k, e, _, _ := Open(NewDevice(v.Disk()), api.MaxRoom); k == nil || e != api.OK || k.Last() != 1 || k.Room() != 0 {
		t.Errorf("P11.6: %d", e)
	}
	if e := j.Compact(append(great[:31:31], make([]byte, rest+26+1))); e != api.ErrFull {
		t.Errorf("P11.8: %d", e)
	}
	if e := j.Compact(append(great[:31:31], make([]byte, rest+26))); e != api.OK || j.Room() != 0 || j.Last() != 1 {
		t.Errorf("P11.8: %d", e)
	}
}

// P11.10.
func TestNilJournal(t *testing.T) {
	var j *Journal
	for _, bodies := range [][][]byte{nil, {[]byte("a")}, make([][]byte, 9000)} {
		if n, e := j.Commit(bodies); n != 0 || e != api.OK {
			t.Errorf("P11.10: Commit: %d, %d", n, e)
		}
		if e := j.Compact(bodies); e != api.OK {
			t.Errorf("P11.10: Compact: %d", e)
		}
	}
	if s := j.Story(); tell(s) != tell(api.Story{}) || j.Last() != 0 || j.Room() != 0 {
		t.Errorf("P11.10: %s, %d, %d", tell(s), j.Last(), j.Room())
	}
	for range j.Each() {
		t.Error("P11.10: Each")
	}
}

// A journal that was not made by Open has no room and nothing to tell.
func TestZeroJournal(t *testing.T) {
	j := &Journal{}
	if n, e := j.Commit(nil); n != 0 || e != api.ErrFull || j.Compact(nil) != api.ErrFull || j.Room() != 0 || j.Last() != 0 || len(j.Story().Batches) != 0 {
		t.Errorf("%d, %d", n, e)
	}
}

// What others do with a journal's device is their business: each call ends.
func TestMeddling(t *testing.T) {
	meddle := map[string]func(*Device){
		"cut":           func(v *Device) { v.Cut(0, 0) },
		"cut a part":    func(v *Device) { v.Cut(0, 40) },
		"other bytes":   func(v *Device) { v.Append(1, []byte("other")) },
		"bytes behind":  func(v *Device) { v.Append(0, []byte{0}) },
		"a full other":  func(v *Device) { v.Append(1, make([]byte, api.MaxRoom)) },
		"a full one":    func(v *Device) { v.Append(0, make([]byte, api.MaxRoom-v.size(0))) },
		"another's own": func(v *Device) { k, _, _, _ := Open(v, 500); k.Compact(bodiesOf("k")); k.Commit(nil) },
	}
	for what, do := range meddle {
		v := NewDevice(api.Disk{})
		j, _, _, _ := Open(v, 1000)
		j.Commit(bodiesOf("a"))
		do(v)
		j.Commit(bodiesOf("b"))
		j.Compact(bodiesOf("c"))
		j.Commit(nil)
		for range j.Each() {
		}
		if j.Story(); j.Room() < 0 {
			t.Errorf("%s: Room %d", what, j.Room())
		}
	}
}

// eachOf is what a going over hands out.
func eachOf(j *Journal, enough int) string {
	var out []string
	for n, batch := range j.Each() {
		out = append(out, fmt.Sprintf("%d%v", n, textsOf(batch)))
		if len(out) == enough {
			break
		}
	}
	return strings.Join(out, " ")
}

// P11.9: Each stops early, is gone over again and nested.
func TestEach(t *testing.T) {
	b := openBoth(t, [2]string{headOf(1, 5) + baseOf("base"), ""}, 1000)
	b.commit("a")
	b.commit()
	b.commit("b", "c")
	wants := []string{"5[a] 6[] 7[b c]", "5[a]", "5[a] 6[]", "5[a] 6[] 7[b c]", "5[a] 6[] 7[b c]"}
	for enough, want := range wants {
		if got := eachOf(b.j, enough); got != want {
			t.Errorf("P11.9: the first %d: %s, want %s", enough, got, want)
		}
	}
	each := b.j.Each()
	for range 2 {
		outer := 0
		for n := range each {
			inner := 0
			for m := range each {
				inner = 10*inner + m
				if m == n {
					break
				}
			}
			outer = 1000*outer + inner
		}
		if outer != 5056567 {
			t.Errorf("P11.9: nested: %d", outer)
		}
	}
	for enough := 1; enough <= 4; enough++ {
		asked := 0
		each(func(int, [][]byte) bool {
			asked++
			return asked < enough
		})
		if asked != min(enough, 3) {
			t.Errorf("P11.9: %d were handed out, %d were enough", asked, enough)
		}
	}
}

// P11.9: it goes over the batches that are there when the going over begins, not when Each was called.
func TestEachMeanwhile(t *testing.T) {
	j, _, _, _ := Open(NewDevice(api.Disk{}), 1000)
	each := j.Each()
	j.Commit(bodiesOf("a"))
	j.Commit(bodiesOf("b"))
	count := 0
	for n, batch := range each {
		count++
		if n != count || string(batch[0]) != string(rune('a'+n-1)) {
			t.Errorf("P11.9: %d, %q", n, batch)
		}
		j.Commit(bodiesOf("more"))
		if n == 1 {
			j.Compact(bodiesOf("base"))
		}
	}
	if count != 2 {
		t.Errorf("P11.9: %d batches", count)
	}
	count = 0
	for n, batch := range each {
		count++
		if n != 4 || string(batch[0]) != "more" {
			t.Errorf("P11.9: %d, %q", n, batch)
		}
	}
	if count != 1 {
		t.Errorf("P11.9: %d batches behind Compact", count)
	}
}
