package shelf

import (
	"fmt"
	"slices"
	"strings"
	"sync"
	"testing"

	"graft/api"
	"graft/journal"
)

// Ways: looks from several goroutines at one time, while transactions come and the journal is made short: each look sees
// the state ahead of a transaction or the one behind it. (.ci/run runs it with the race detector where that can be had.)
func TestSeveral(t *testing.T) {
	f := fileOf("hi")
	a, b, c := named('a'), named('b'), named('c')
	s := mustOpen(t, journal.NewDevice(api.Disk{}), 1<<26)
	s.Apply([]api.Step{put(c, f)})
	come := []api.Step{put(a, fileOf("ring"), b), put(b, fileOf("ring"), a, c), same(named('x'), a), made("m", b), setTo("k", "v")}
	go1 := []api.Step{drop(a), drop(b), void("k")}
	looks := []func() string{
		func() string { return showLabels(s.List()) },
		func() string { return fmt.Sprint(len(s.Referrers(c)), s.Has(c)) },
		func() string { l, e, _ := s.Closure([]api.Label{c}); return fmt.Sprint(len(l), e) },
		func() string { l, e, at := s.Closure([]api.Label{c, a}); return fmt.Sprint(len(l), e, at) },
		func() string { o, e := s.Get(b); return fmt.Sprint(showObject(o), e) },
		func() string { l, e := s.Named(a.Hash); return fmt.Sprint(showLabel(l), e) },
		func() string { return fmt.Sprint(s.Sames()) },
		func() string { l, e := s.Same(named('x')); return fmt.Sprint(showLabel(l), e) },
		func() string { return fmt.Sprint(s.Mades()) },
		func() string { l, e := s.Made("m"); return fmt.Sprint(showLabel(l), e) },
		func() string { return fmt.Sprint(s.Keys()) },
		func() string { x, e := s.Value("k"); return fmt.Sprintf("%q %d", x, e) },
		func() string {
			x := s.Stat()
			return fmt.Sprint(x.Objects, x.Arks, x.Bytes, x.Sames, x.Mades, x.Values, x.Journal+x.Room)
		},
	}
	may := make([][]string, len(looks))
	for _, steps := range [][]api.Step{nil, come, go1} {
		s.Apply(steps)
		for i, look := range looks {
			may[i] = append(may[i], look())
		}
	}
	var wg sync.WaitGroup
	wg.Go(func() {
		for i := range 200 {
			for _, steps := range [][]api.Step{come, go1} {
				if e, n := s.Apply(steps); e != api.OK {
					t.Errorf("P12.1: %d, %d", e, n)
				}
			}
			if i%20 == 0 && s.Compact() != api.OK {
				t.Errorf("P12.2: refused")
			}
		}
	})
	for i, look := range looks {
		wg.Go(func() {
			last := 0
			for range 300 {
				if got := look(); !slices.Contains(may[i], got) {
					t.Errorf("look %d: %s, want one of %q", i, got, may[i])
					return
				}
				if n := s.Last(); n < last {
					t.Errorf("P12.4: Last goes back from %d to %d", last, n)
				} else {
					last = n
				}
			}
		})
	}
	wg.Wait()
}

// Ways: while a shelf is looked at nothing can change it, but others can look.
func TestGuarded(t *testing.T) {
	s := mustOpen(t, journal.NewDevice(api.Disk{}), 1<<16)
	s.look(func(*tables) {
		if s.guard.TryLock() {
			t.Errorf("the mutex is free during a look")
		}
		if !s.guard.TryRLock() {
			t.Fatalf("two looks at one time are not let in")
		}
		s.guard.RUnlock()
	})
	if !s.guard.TryLock() {
		t.Fatalf("the mutex is not free behind a look")
	}
	s.guard.Unlock()
}

// Transactions from several goroutines come one behind the other.
func TestSeveralApply(t *testing.T) {
	s := mustOpen(t, journal.NewDevice(api.Disk{}), 1<<26)
	var wg sync.WaitGroup
	for i := range 16 {
		wg.Go(func() {
			for k := range 20 {
				l := numbered(i*100 + k)
				if e, n := s.Apply([]api.Step{put(l, fileOf(l.Name)), made(l.Name, l)}); e != api.OK {
					t.Errorf("P12.1: %d, %d", e, n)
				}
			}
		})
	}
	wg.Wait()
	if c := s.Stat(); c.Objects != 320 || c.Mades != 320 || s.Last() != 320 {
		t.Errorf("%+v, Last %d", c, s.Last())
	}
}

// Several shelves have nothing in common, and two that were made alike answer alike.
func TestAlike(t *testing.T) {
	one, two, third := begin(t, 1<<16), begin(t, 1<<16), begin(t, 1<<16)
	for _, b := range []*both{one, two} {
		b.want("ready", api.OK, 0, put(named('a'), fileOf("hi")), setTo("k", "v"))
		third.want("apart", api.OK, 0, setTo("third", strings.Repeat("x", third.s.Last())))
		b.want("more", api.OK, 0, put(named('b'), fileOf("hi"), named('a')))
	}
	if filesOf(one.v) != filesOf(two.v) || tell(one.s) != tell(two.s) {
		t.Errorf("two shelves that were made alike differ")
	}
	third.hold("the third one")
}

// Ways: a label's text is made once, whoever asks for it.
func TestTextOnce(t *testing.T) {
	x := &title{label: named('a')}
	var wg sync.WaitGroup
	for range 8 {
		wg.Go(func() {
			if x.text() != textOf(named('a'))[len(api.Store):] {
				t.Errorf("%q", x.text())
			}
		})
	}
	wg.Wait()
	x.base = "kept"
	if x.text() != "kept" {
		t.Errorf("Ways: the text is made again: %q", x.text())
	}
}

// Ways: behind Compact the texts are those that were made ahead of it.
func TestTextKept(t *testing.T) {
	b := woven(t)
	b.s.Compact()
	was := b.s.state.objects[named('a').Hash].title
	b.s.Compact()
	if now := b.s.state.objects[named('a').Hash].title; was.base == "" || now != was {
		t.Errorf("Ways: %q, then %q", was.base, now.base)
	}
}
