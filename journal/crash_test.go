package journal

import (
	"fmt"
	"strings"
	"testing"

	"graft/api"
)

// call is one of a script's, as a power failure sees it.
type call struct {
	from, to      int // the device's operations ahead of it and behind it
	before, after string
}

// life is a device, and the calls that were made of the journal on it.
type life struct {
	v     *Device
	j     *Journal
	calls []call
}

func kept(s api.Story) string { return keeping(textsOf(s.Base), batchTexts(s.Batches)) }

// begun is the life that begins with opening a disk, which must be taken.
func begun(t *testing.T, d api.Disk, limit int) *life {
	t.Helper()
	v := NewDevice(d)
	s, _, _, _ := Replay(d)
	j, e, _, _ := Open(v, limit)
	if e != api.OK {
		t.Fatalf("P11.11: Open(%q): %d", filesOf(d), e)
	}
	return &life{v, j, []call{{0, v.Count(), kept(s), kept(j.Story())}}}
}

// do makes a call.
func (l *life) do(ask func(*Journal)) {
	c := call{from: l.v.Count(), before: kept(l.j.Story())}
	ask(l.j)
	c.to, c.after = l.v.Count(), kept(l.j.Story())
	l.calls = append(l.calls, c)
}

// looseAt is how many loose bytes of each file there are when n operations are done.
func looseAt(v *Device, n int) [2]int {
	all, _ := v.At(n, [2]int{1 << 30, 1 << 30})
	safe, _ := v.At(n, [2]int{})
	return [2]int{len(all.Files[0]) - len(safe.Files[0]), len(all.Files[1]) - len(safe.Files[1])}
}

// moments goes over every moment of a device, with every number of loose bytes of both files.
func moments(v *Device, see func(n int, keep [2]int, whole bool, d api.Disk)) {
	for n := range v.Count() + 1 {
		loose := looseAt(v, n)
		for a := range loose[0] + 1 {
			for b := range loose[1] + 1 {
				keep := [2]int{a, b}
				d, _ := v.At(n, keep)
				see(n, keep, keep == loose, d)
			}
		}
	}
}

// hold holds that at every moment of a life the disk tells what was there ahead of the call that was under way or behind it,
// and hands on each such disk.
func (l *life) hold(t *testing.T, see func(d api.Disk)) {
	t.Helper()
	moments(l.v, func(n int, keep [2]int, whole bool, d api.Disk) {
		want := l.calls[0].before
		for _, c := range l.calls {
			if n >= c.to || n > c.from && whole && c.to > c.from {
				want = c.after
			}
		}
		s, e, _, _ := Replay(d)
		if e != api.OK || kept(s) != want {
			t.Fatalf("P11.11: behind %d operations, %v kept: %d, %s, want %s", n, keep, e, kept(s), want)
		}
		if see != nil {
			see(d)
		}
	})
}

func commits(texts ...string) func(*Journal) {
	return func(j *Journal) { j.Commit(bodiesOf(texts...)) }
}

func compacts(texts ...string) func(*Journal) {
	return func(j *Journal) { j.Compact(bodiesOf(texts...)) }
}

// starts is disks of every kind that Open takes.
func starts() [][2]string {
	whole := headOf(4, 3) + baseOf("b") + batchOf(3, "x", "y") + batchOf(4)
	tail := rec(4, 0, "more")
	return [][2]string{
		{}, {"\x9e", ""}, {"", "\x9e"}, {headOf(1, 1), headOf(7, 7) + rec(2, 0, "b")},
		{whole, ""}, {"", whole}, {whole + tail, ""}, {tail[:9], whole + tail}, {whole, headOf(3, 1) + baseOf("old")},
		{headOf(3, 1) + baseOf("old"), whole + tail}, {headOf(5, 5) + baseOf() + tail, whole + tail}, {whole, headOf(5, 9)},
	}
}

// P11.11: at every moment of Open, Commit and Compact, with every number of loose bytes.
func TestBeforeOrAfter(t *testing.T) {
	for _, files := range starts() {
		l := begun(t, diskOf(files[:]...), 400)
		for _, ask := range []func(*Journal){
			commits("a"), commits(), commits("bc", "", "d"), compacts("s", "t"), commits("e"), compacts(), compacts("u"), commits("f"),
			commits(strings.Repeat("full", 100)), compacts(strings.Repeat("full", 100)), commits("g"),
		} {
			l.do(ask)
		}
		l.hold(t, nil)
		if len(l.calls) != 12 || l.v.Count() < 2*6+3*3 {
			t.Errorf("few calls: %d, %d operations", len(l.calls), l.v.Count())
		}
	}
}

// P11.11: life behind life: each disk that a power failure leaves is opened; so is each that one leaves while that is under
// way, and again; and each goes on with a batch and a base.
func TestLifeBehindLife(t *testing.T) {
	lives := 0
	for _, files := range starts() {
		first := begun(t, diskOf(files[:]...), 400)
		first.do(commits("a", "bc"))
		first.do(compacts("s"))
		first.do(commits())
		first.hold(t, func(d api.Disk) {
			second := begun(t, d, 400)
			second.hold(t, func(d api.Disk) {
				third := begun(t, d, 400)
				if kept(third.j.Story()) != kept(second.j.Story()) || third.j.Last() != second.j.Last() {
					t.Fatalf("P11.11: opened again: %s, want %s", kept(third.j.Story()), kept(second.j.Story()))
				}
				third.hold(t, nil)
				lives++
			})
			second.do(commits("z"))
			second.do(compacts("y"))
			second.hold(t, nil)
		})
	}
	if lives < 1000 {
		t.Errorf("only %d lives", lives)
	}
}

// P11.11: any calls, and power failures in the midst of them, life behind life.
func TestAnyLives(t *testing.T) {
	r := sourceOf(4)
	for range 200 {
		d := api.Disk{}
		for range 6 {
			l := begun(t, d, 64+r.IntN(400))
			for range r.IntN(5) {
				if r.IntN(4) == 0 {
					l.do(compacts(anyBodies(r)...))
				} else {
					l.do(commits(anyBodies(r)...))
				}
			}
			l.hold(t, nil)
			n := r.IntN(l.v.Count() + 1)
			d, _ = l.v.At(n, [2]int{r.IntN(60), r.IntN(60)})
		}
	}
}

// P11.11: what was committed is there once Commit has answered, and its number goes on.
func TestCommittedStays(t *testing.T) {
	v := NewDevice(api.Disk{})
	for i := range 6 {
		j, e, _, _ := Open(v, 1000)
		if e != api.OK || j.Last() != i {
			t.Fatalf("P11.11: life %d: %d, Last %d", i, e, j.Last())
		}
		if n, e := j.Commit(bodiesOf(fmt.Sprint(i))); n != i+1 || e != api.OK {
			t.Fatalf("P11.11: life %d: %d, %d", i, n, e)
		}
		d, _ := v.At(v.Count(), [2]int{})
		v = NewDevice(d)
		v.Append(0, []byte(rec(4, 0, "torn")[:20+i%2])) // another batch was under way
	}
}

// P11.12: every bit of the good bytes of a live file.
func TestEveryBit(t *testing.T) {
	text, places := small()
	for _, c := range []struct {
		files [2]string
		live  int
	}{
		{[2]string{text, ""}, 0}, {[2]string{"", text}, 1}, {[2]string{text + rec(4, 0, "torn"), "\x9e"}, 0},
		{[2]string{headOf(2, 7) + baseOf("older"), text + "\x9e\x04"}, 1}, {[2]string{text, headOf(1, 1) + baseOf() + batchOf(1)}, 0},
	} {
		s, e, _, _ := Replay(diskOf(c.files[:]...))
		if e != api.OK || s.File != c.live || s.Good != len(text) {
			t.Fatalf("P11.12: %d, %s", e, tell(s))
		}
		for i := range s.Good * 8 {
			d := diskOf(c.files[:]...)
			d.Files[c.live][i/8] ^= 1 << (i % 8)
			want := recordAt(places, i/8)
			wantE := api.ErrRecord
			if want == 0 {
				wantE = api.ErrJournal
			}
			if got := replayed(d); got != refusal(wantE, c.live, want) {
				t.Errorf("P11.12: bit %d: %v, want %d at %d", i, got, wantE, want)
			}
			v := NewDevice(d)
			if j, e, file, at := Open(v, 1000); j != nil || e != wantE || file != c.live || at != want || v.Count() != 0 {
				t.Errorf("P11.12: Open, bit %d: %d, %d, %d", i, e, file, at)
			}
		}
	}
}

// P11.12: of journals that calls have made.
func TestEveryBitOfCalls(t *testing.T) {
	r := sourceOf(5)
	for range 20 {
		l := begun(t, api.Disk{}, 800)
		for range 1 + r.IntN(5) {
			if r.IntN(3) == 0 {
				l.do(compacts(anyBodies(r)...))
			} else {
				l.do(commits(anyBodies(r)...))
			}
		}
		s := l.j.Story()
		for i := range s.Good * 8 {
			d := l.v.Disk()
			d.Files[s.File][i/8] ^= 1 << (i % 8)
			if got, e, file, at := Replay(d); e != api.ErrJournal && e != api.ErrRecord || file != s.File || at > i/8 || tell(got) != tell(api.Story{}) {
				t.Errorf("P11.12: bit %d: %d, %d, %d", i, e, file, at)
			}
		}
	}
}
