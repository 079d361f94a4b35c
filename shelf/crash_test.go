package shelf

import (
	"testing"

	"graft/api"
	"graft/journal"
)

// call is one of a life's, as a power failure sees it.
type call struct {
	from, to      int // the device's operations ahead of it and behind it
	before, after string
}

// life is a device, and the calls that were made of the shelf on it.
type life struct {
	t     *testing.T
	v     *journal.Device
	s     *Shelf
	calls []call
}

// opened is all that a shelf tells that is opened on a disk.
func opened(t *testing.T, d api.Disk) string {
	t.Helper()
	return tell(mustOpen(t, journal.NewDevice(d), 1<<16))
}

// begun is the life that begins with opening a disk.
func begun(t *testing.T, d api.Disk) *life {
	t.Helper()
	v := journal.NewDevice(d)
	s := mustOpen(t, v, 1<<16)
	return &life{t, v, s, []call{{0, v.Count(), opened(t, d), tell(s)}}}
}

// do makes a call that must go well.
func (l *life) do(ask func(s *Shelf) api.Errno) {
	l.t.Helper()
	c := call{from: l.v.Count(), before: tell(l.s)}
	if e := ask(l.s); e != api.OK {
		l.t.Fatalf("a call is refused: %d", e)
	}
	c.to, c.after = l.v.Count(), tell(l.s)
	l.calls = append(l.calls, c)
}

func applies(steps ...api.Step) func(s *Shelf) api.Errno {
	return func(s *Shelf) api.Errno {
		e, _ := s.Apply(steps)
		return e
	}
}

// hold holds that at every moment of a life, with every number of loose bytes, the disk has the shelf ahead of the call
// that was under way or the one behind it; and hands on each such disk.
func (l *life) hold(see func(d api.Disk)) int {
	l.t.Helper()
	seen := 0
	for n := range l.v.Count() + 1 {
		all, _ := l.v.At(n, [2]int{1 << 30, 1 << 30})
		safe, _ := l.v.At(n, [2]int{})
		loose := [2]int{len(all.Files[0]) - len(safe.Files[0]), len(all.Files[1]) - len(safe.Files[1])}
		for a := range loose[0] + 1 {
			for b := range loose[1] + 1 {
				keep := [2]int{a, b}
				d, _ := l.v.At(n, keep)
				if got, want := opened(l.t, d), l.wanted(n, keep == loose); got != want {
					l.t.Fatalf("P12.8: behind %d operations, %v kept: %s", n, keep, firstUnlike(got, want))
				}
				if see != nil {
					see(d)
				}
				seen++
			}
		}
	}
	return seen
}

// wanted is what is there when n operations are done and the loose bytes are kept or not: behind each call that has
// answered, and behind the one that is under way if all of its bytes are there.
func (l *life) wanted(n int, whole bool) string {
	want := l.calls[0].before
	for _, c := range l.calls {
		if n >= c.to || n > c.from && whole {
			want = c.after
		}
	}
	return want
}

// some is calls of each kind.
func some() []func(s *Shelf) api.Errno {
	f, g := fileOf(""), fileOf("g")
	a, b := named('a'), named('b')
	return []func(s *Shelf) api.Errno{
		applies(put(a, f)), applies(put(b, f, a, b), setTo("k", "v"), same(named('x'), b)), applies(), (*Shelf).Compact, applies(drop(a), drop(b), put(b, g), made("m", b)),
		applies(void("k"), put(a, f, a)), (*Shelf).Compact, (*Shelf).Compact, applies(put(named('c'), g, a)),
	}
}

// P12.8: at every moment of Apply, Compact and Open.
func TestBeforeOrAfter(t *testing.T) {
	l := begun(t, api.Disk{})
	for _, ask := range some() {
		l.do(ask)
	}
	if n := l.hold(nil); n < 1000 {
		t.Errorf("%d moments", n)
	}
}

// P12.8: calls that are refused leave all as it was, at every moment.
func TestRefusedCalls(t *testing.T) {
	l := begun(t, api.Disk{})
	l.do(some()[0])
	for _, steps := range [][]api.Step{{drop(named('z'))}, {put(named('b'), fileOf("x")), {}}, {put(named('b'), fileOf("x"), named('z'))}, make([]api.Step, 8193)} {
		count, files := l.v.Count(), filesOf(l.v)
		if e, _ := l.s.Apply(steps); e == api.OK || l.v.Count() != count || filesOf(l.v) != files {
			t.Errorf("P12.1: %d, %d operations", e, l.v.Count()-count)
		}
	}
	l.do(some()[1])
	l.hold(nil)
}

// P12.8: life behind life: each disk that a power failure leaves is opened, and each that one leaves while that is under way;
// and each goes on with calls of its own.
func TestLifeBehindLife(t *testing.T) {
	first := begun(t, api.Disk{})
	for _, ask := range some()[:4] {
		first.do(ask)
	}
	lives := 0
	first.hold(func(d api.Disk) {
		if lives++; lives%7 != 0 {
			return
		}
		second := begun(t, d)
		second.hold(func(d api.Disk) {
			if third := begun(t, d); tell(third.s) != tell(second.s) || third.s.Last() != second.s.Last() {
				t.Fatalf("P12.8: opened again: %s", firstUnlike(tell(third.s), tell(second.s)))
			}
		})
		second.do(applies(put(named('z'), fileOf("z"))))
		second.do((*Shelf).Compact)
		second.hold(nil)
	})
}

// P12.8: disks that Open has to cut: torn batches, and a base that was being made.
func TestTornDisks(t *testing.T) {
	whole := history{gen: 3, first: 4, base: []string{ready()}, batches: [][]string{{voidEntry("k")}}}
	older := history{gen: 2, first: 1, batches: [][]string{{ready()}, {voidEntry("k")}, nil}}
	newer := history{gen: 4, first: 5, base: []string{ready()[:len(ready())-len(valueEntry("k", "v"))]}}
	torn := record(4, 0, dropEntry(named('a')))
	for _, files := range [][2]string{
		{whole.file() + torn, ""}, {whole.file(), newer.file()[:40]}, {"\x9e", whole.file() + torn[:9]}, {older.file(), whole.file()}, {newer.file(), whole.file() + torn},
	} {
		l := begun(t, api.Disk{Files: [2][]byte{[]byte(files[0]), []byte(files[1])}})
		l.do(applies(setTo("k", "new")))
		l.do((*Shelf).Compact)
		l.hold(nil)
	}
}

// P12.8: any calls, and a power failure somewhere in them, life behind life.
func TestAnyLives(t *testing.T) {
	r := sourceOf(5)
	for range 40 {
		d := api.Disk{}
		var p plainState
		for range 5 {
			l := begun(t, d)
			states := []plainState{p}
			for range r.IntN(6) {
				steps := anySteps(r, p)
				q := p.clone()
				if plainTakes(&q, steps) {
					p = q
					l.do(applies(steps...))
				} else if e, _ := l.s.Apply(steps); e == api.OK {
					t.Fatalf("P12.1: taken")
				}
				states = append(states, p)
				if r.IntN(4) == 0 {
					l.do((*Shelf).Compact)
				}
			}
			if tell(l.s) != p.tell() {
				t.Fatalf("P12.4: %s", firstUnlike(tell(l.s), p.tell()))
			}
			d, _ = l.v.At(r.IntN(l.v.Count()+1), [2]int{r.IntN(300), r.IntN(300)})
			p = oneOf(t, opened(t, d), states)
		}
	}
}

// plainTakes does steps on a plain state, if they are taken.
func plainTakes(p *plainState, steps []api.Step) bool {
	for _, x := range steps {
		if _, e := p.do(x); e != api.OK {
			return false
		}
	}
	e, _ := p.whole(steps)
	return e == api.OK
}

// oneOf is the state that was told.
func oneOf(t *testing.T, told string, states []plainState) plainState {
	t.Helper()
	for _, p := range states {
		if p.tell() == told {
			return p
		}
	}
	t.Fatalf("P12.8: none of the states that there were: %s", told)
	return plainState{}
}
