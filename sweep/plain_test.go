package sweep

import (
	"encoding/binary"
	"fmt"
	"slices"
	"strings"
	"testing"

	"graft/api"
	"graft/journal"
	"graft/label"
	"graft/shelf"
)

// A plain reading of the chapter, with lists that are gone through from end to end, that the package is held against. It
// plays on a shelf of its own.

func plainName(name string) bool {
	e, at := label.Check(name)
	return e == api.OK && at == 0
}

// plainRoots goes by 13.1.
func plainRoots(s *shelf.Shelf) []api.Root {
	var out []api.Root
	for _, key := range s.Keys() {
		if len(key) < 5 || key[:5] != "root:" || !plainName(key[5:]) {
			continue
		}
		data, _ := s.Value(key)
		if l, e, _ := label.Parse(string(data)); e == api.OK {
			out = append(out, api.Root{Name: key[5:], Label: l})
		}
	}
	return out
}

// plainProfile goes by 13.2: NOW, LAST and the generations of a value.
func plainProfile(value string) (now, last int, gens []api.Gen, ok bool) {
	at := 0
	number := func() int {
		if len(value)-at < 4 {
			at = len(value) + 1
			return -1
		}
		at += 4
		return int(binary.LittleEndian.Uint32([]byte(value[at-4 : at])))
	}
	now = number()
	if at > len(value) {
		return 0, 0, nil, false
	}
	last = number()
	for at < len(value) {
		g := api.Gen{Number: number()}
		if at > len(value) {
			return 0, 0, nil, false
		}
		n := number()
		if at > len(value) || n > len(value)-at {
			return 0, 0, nil, false
		}
		l, e, _ := label.ParseBase(value[at : at+n])
		at += n
		g.Label = l
		if e != api.OK || g.Number < 1 || g.Number > last || len(gens) > 0 && g.Number <= gens[len(gens)-1].Number {
			return 0, 0, nil, false
		}
		gens = append(gens, g)
	}
	if at > len(value) || len(gens) > 250 || last > 1<<31-1 {
		return 0, 0, nil, false
	}
	if now != 0 && !slices.ContainsFunc(gens, func(g api.Gen) bool { return g.Number == now }) {
		return 0, 0, nil, false
	}
	return now, last, gens, true
}

func plainProfiles(s *shelf.Shelf) []api.Profile {
	var out []api.Profile
	for _, key := range s.Keys() {
		if len(key) < 8 || key[:8] != "profile:" || !plainName(key[8:]) {
			continue
		}
		data, _ := s.Value(key)
		if now, _, gens, ok := plainProfile(string(data)); ok {
			out = append(out, api.Profile{Name: key[8:], Gens: gens, Now: now})
		}
	}
	return out
}

func plainKeep(s *shelf.Shelf, name string, l api.Label) api.Errno {
	if !plainName(name) {
		return api.ErrRoot
	}
	if !slices.Contains(s.List(), l) {
		return api.ErrNone
	}
	if slices.Contains(plainRoots(s), api.Root{Name: name, Label: l}) {
		return api.OK
	}
	e, _ := s.Apply([]api.Step{setTo("root:"+name, textOf(l))})
	return e
}

func plainRelease(s *shelf.Shelf, name string) api.Errno {
	for _, r := range plainRoots(s) {
		if r.Name == name {
			e, _ := s.Apply([]api.Step{void("root:" + name)})
			return e
		}
	}
	return api.ErrRoot
}

func plainAdvance(s *shelf.Shelf, name string, l api.Label) (int, api.Errno) {
	if !plainName(name) {
		return 0, api.ErrProfile
	}
	now, last, gens, ok := 0, 0, []api.Gen(nil), true
	if slices.Contains(s.Keys(), "profile:"+name) {
		data, _ := s.Value("profile:" + name)
		now, last, gens, ok = plainProfile(string(data))
	}
	if !ok {
		return 0, api.ErrProfile
	}
	if !slices.Contains(s.List(), l) {
		return 0, api.ErrNone
	}
	for _, g := range gens {
		if g.Number == now && g.Label == l {
			return now, api.OK
		}
	}
	if last == 2147483647 {
		return 0, api.ErrEnd
	}
	if len(gens) == 250 {
		return 0, api.ErrFull
	}
	if e, _ := s.Apply([]api.Step{setTo("profile:"+name, valueOf(last+1, last+1, append(gens, api.Gen{Number: last + 1, Label: l})...))}); e != api.OK {
		return 0, e
	}
	return last + 1, api.OK
}

func plainSwitch(s *shelf.Shelf, name string, number int) api.Errno {
	data, e := s.Value("profile:" + name)
	now, last, gens, ok := plainProfile(string(data))
	if e != api.OK || !ok || !plainName(name) {
		return api.ErrProfile
	}
	if number != 0 && !slices.ContainsFunc(gens, func(g api.Gen) bool { return g.Number == number }) {
		return api.ErrProfile
	}
	if number == now {
		return api.OK
	}
	e, _ = s.Apply([]api.Step{setTo("profile:"+name, valueOf(number, last, gens...))})
	return e
}

func plainTrim(s *shelf.Shelf, name string, keep int) (int, api.Errno) {
	if keep < 0 {
		return 0, api.ErrArg
	}
	data, e := s.Value("profile:" + name)
	now, last, gens, ok := plainProfile(string(data))
	if e != api.OK || !ok || !plainName(name) {
		return 0, api.ErrProfile
	}
	var left []api.Gen
	for _, g := range gens {
		greater := 0
		for _, h := range gens {
			if h.Number > g.Number {
				greater++
			}
		}
		if greater < keep || g.Number == now {
			left = append(left, g)
		}
	}
	if len(left) == len(gens) {
		return 0, api.OK
	}
	if e, _ := s.Apply([]api.Step{setTo("profile:"+name, valueOf(now, last, left...))}); e != api.OK {
		return 0, e
	}
	return len(gens) - len(left), api.OK
}

// objectsOf is all objects of a shelf, in order.
func objectsOf(s *shelf.Shelf) []api.Object {
	var out []api.Object
	for _, l := range s.List() {
		o, _ := s.Get(l)
		out = append(out, o)
	}
	return out
}

// plainLive goes by P13.8.
func plainLive(s *shelf.Shelf, extra []api.Label) []api.Label {
	keepers := slices.Clone(extra)
	for _, r := range plainRoots(s) {
		keepers = append(keepers, r.Label)
	}
	for _, p := range plainProfiles(s) {
		for _, g := range p.Gens {
			keepers = append(keepers, g.Label)
		}
	}
	objects := objectsOf(s)
	var live []api.Label
	for grown := true; grown; {
		grown = false
		for _, o := range objects {
			reached := slices.Contains(keepers, o.Label)
			for _, x := range objects {
				reached = reached || slices.Contains(live, x.Label) && slices.Contains(x.Refs, o.Label)
			}
			if reached && !slices.Contains(live, o.Label) {
				live, grown = append(live, o.Label), true
			}
		}
	}
	slices.SortFunc(live, func(a, b api.Label) int { return strings.Compare(textOf(a), textOf(b)) })
	return live
}

// plainFree goes by P13.9: what some objects free.
func plainFree(objects []api.Object, some []api.Label) int {
	size := 0
	var counted []string
	for _, o := range objects {
		if !slices.Contains(some, o.Label) || slices.Contains(counted, string(o.Ark)) {
			continue
		}
		beside := slices.ContainsFunc(objects, func(x api.Object) bool {
			return !slices.Contains(some, x.Label) && string(x.Ark) == string(o.Ark)
		})
		if !beside {
			counted = append(counted, string(o.Ark))
			size += len(o.Ark)
		}
	}
	return size
}

// plainPlan goes by P13.9.
func plainPlan(s *shelf.Shelf, extra []api.Label, want int) [][]api.Label {
	if want < 1 {
		return nil
	}
	objects, live := objectsOf(s), plainLive(s, extra)
	dead := slices.DeleteFunc(slices.Clone(objects), func(o api.Object) bool { return slices.Contains(live, o.Label) })
	groups := plainGroups(dead)
	var out [][]api.Label
	var gone []api.Label
	for len(gone) < len(dead) && plainFree(objects, gone) < want {
		for _, g := range groups { // the least first
			if !slices.Contains(gone, g[0]) && plainReady(dead, g, gone) {
				out, gone = append(out, g), append(gone, g...)
				break
			}
		}
	}
	return out
}

// plainGroups is the groups of objects, those with lesser labels first, each with its members in order.
func plainGroups(dead []api.Object) [][]api.Label {
	leads := make([][]bool, len(dead))
	for i, a := range dead {
		leads[i] = make([]bool, len(dead))
		for j, b := range dead {
			leads[i][j] = i == j || slices.Contains(a.Refs, b.Label)
		}
	}
	for k := range dead {
		for i := range dead {
			for j := range dead {
				leads[i][j] = leads[i][j] || leads[i][k] && leads[k][j]
			}
		}
	}
	var out [][]api.Label
	for i, a := range dead {
		var group []api.Label
		for j, b := range dead {
			if leads[i][j] && leads[j][i] {
				group = append(group, b.Label)
			}
		}
		if group[0] == a.Label {
			out = append(out, group)
		}
	}
	return out
}

// plainReady says whether no dead object outside of a group, that has not gone, refers to a member.
func plainReady(dead []api.Object, group, gone []api.Label) bool {
	for _, o := range dead {
		if slices.Contains(group, o.Label) || slices.Contains(gone, o.Label) {
			continue
		}
		for _, l := range group {
			if slices.Contains(o.Refs, l) {
				return false
			}
		}
	}
	return true
}

// plainCollect goes by P13.10; it tells each transaction, and each Compact, as it is done.
func plainCollect(s *shelf.Shelf, extra []api.Label, want int, done func(what string)) ([]api.Label, int, api.Errno) {
	objects := objectsOf(s)
	var gone []api.Label
	for _, group := range plainPlan(s, extra, want) {
		var steps []api.Step
		for _, l := range group {
			steps = append(steps, takeOff(l))
		}
		e, _ := s.Apply(steps)
		if e == api.ErrFull {
			if e := s.Compact(); e != api.OK {
				return gone, plainFree(objects, gone), e
			}
			done("compact")
			e, _ = s.Apply(steps)
		}
		if e != api.OK {
			return gone, plainFree(objects, gone), e
		}
		done("drop")
		gone = append(gone, group...)
	}
	return gone, plainFree(objects, gone), api.OK
}

// both is two shelves on devices of their own: one for the package, one for the plain reading.
type both struct {
	t    *testing.T
	s, p *shelf.Shelf
	v, w *journal.Device
}

// bothOn is both over a disk's bytes.
func bothOn(t *testing.T, d api.Disk, limit int) *both {
	t.Helper()
	b := &both{t: t, v: journal.NewDevice(d), w: journal.NewDevice(d)}
	b.s, b.p = mustOpen(t, b.v, limit), mustOpen(t, b.w, limit)
	return b
}

// ask holds that a call and its plain reading answer the same, and leave shelves and devices that are the same.
func (b *both) ask(what string, ask, plain func(s *shelf.Shelf) string) string {
	b.t.Helper()
	got, want := ask(b.s), plain(b.p)
	if got != want {
		b.t.Fatalf("%s: %s, want %s\n%s", what, got, want, tell(b.p))
	}
	if filesOf(b.v) != filesOf(b.w) || b.v.Count() != b.w.Count() {
		b.t.Fatalf("%s: %d operations, want %d\n%s", what, b.v.Count(), b.w.Count(), firstUnlike(tell(b.s), tell(b.p)))
	}
	return got
}

func (b *both) keep(name string, l api.Label) {
	b.t.Helper()
	b.ask("P13.1", func(s *shelf.Shelf) string { return fmt.Sprint(Keep(s, name, l)) }, func(s *shelf.Shelf) string { return fmt.Sprint(plainKeep(s, name, l)) })
}

func (b *both) release(name string) {
	b.t.Helper()
	b.ask("P13.2", func(s *shelf.Shelf) string { return fmt.Sprint(Release(s, name)) }, func(s *shelf.Shelf) string { return fmt.Sprint(plainRelease(s, name)) })
}

func (b *both) advance(name string, l api.Label) {
	b.t.Helper()
	b.ask("P13.4", func(s *shelf.Shelf) string { return fmt.Sprint(Advance(s, name, l)) }, func(s *shelf.Shelf) string { return fmt.Sprint(plainAdvance(s, name, l)) })
}

func (b *both) switchTo(name string, number int) {
	b.t.Helper()
	b.ask("P13.5", func(s *shelf.Shelf) string { return fmt.Sprint(Switch(s, name, number)) }, func(s *shelf.Shelf) string { return fmt.Sprint(plainSwitch(s, name, number)) })
}

func (b *both) trim(name string, keep int) {
	b.t.Helper()
	b.ask("P13.6", func(s *shelf.Shelf) string { return fmt.Sprint(Trim(s, name, keep)) }, func(s *shelf.Shelf) string { return fmt.Sprint(plainTrim(s, name, keep)) })
}

// looks holds all looks.
func (b *both) looks(extra []api.Label) {
	b.t.Helper()
	b.ask("P13.3", func(s *shelf.Shelf) string { return fmt.Sprint(Roots(s)) }, func(s *shelf.Shelf) string { return fmt.Sprint(plainRoots(s)) })
	b.ask("P13.7", func(s *shelf.Shelf) string { return fmt.Sprint(Profiles(s)) }, func(s *shelf.Shelf) string { return fmt.Sprint(plainProfiles(s)) })
	b.ask("P13.8", func(s *shelf.Shelf) string { return fmt.Sprint(Live(s, extra)) }, func(s *shelf.Shelf) string { return fmt.Sprint(plainLive(s, extra)) })
}

func (b *both) plan(extra []api.Label, want int) string {
	b.t.Helper()
	return b.ask("P13.9", func(s *shelf.Shelf) string { return fmt.Sprint(Plan(s, extra, want)) }, func(s *shelf.Shelf) string { return fmt.Sprint(plainPlan(s, extra, want)) })
}

// told is what Collect answers.
func told(labels []api.Label, bytes int, e api.Errno) string {
	return fmt.Sprint(showLabels(labels), bytes, e)
}

func (b *both) collect(extra []api.Label, want int) string {
	b.t.Helper()
	return b.ask("P13.10", func(s *shelf.Shelf) string { return told(Collect(s, extra, want)) }, func(s *shelf.Shelf) string { return told(plainCollect(s, extra, want, func(string) {})) })
}

func (b *both) apply(steps ...api.Step) api.Errno {
	b.t.Helper()
	e, _ := b.s.Apply(steps)
	b.p.Apply(steps)
	return e
}
