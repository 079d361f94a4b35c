package shelf

import (
	"math/rand/v2"
	"slices"
	"strings"
	"testing"

	"graft/api"
	"graft/label"
)

// Any transactions, over a few labels, archives and keys, so that they often meet.

func anyLabel(r *rand.Rand) api.Label {
	l := named("abcdef"[r.IntN(6)])
	if r.IntN(20) == 0 {
		l.Name = []string{"other", "", "a b", "a"}[r.IntN(4)]
	}
	return l
}

func anyArk(r *rand.Rand) []byte {
	switch r.IntN(40) {
	case 0:
		return nil
	case 1:
		return []byte("no archive")
	}
	return fileOf([]string{"", "hi", "ho", "great " + strings.Repeat("x", 50)}[r.IntN(4)])
}

func anyRefs(r *rand.Rand) []api.Label {
	var out []api.Label
	for range r.IntN(3) {
		out = append(out, anyLabel(r))
	}
	if r.IntN(20) == 0 {
		return out
	}
	return label.Sort(out)
}

func anyKey(r *rand.Rand) string {
	return []string{"k", "l", "m", "k", "l", "m", "", strings.Repeat("k", 255+r.IntN(2))}[r.IntN(8)]
}

func anyStep(r *rand.Rand) api.Step {
	switch r.IntN(25) {
	case 0:
		return api.Step{Kind: r.IntN(12) - 3}
	case 1, 2, 3, 4, 5:
		return drop(anyLabel(r))
	case 6, 7, 8:
		return same(named("xyabc"[r.IntN(5)]), anyLabel(r))
	case 9, 10, 11:
		return made(anyKey(r), anyLabel(r))
	case 12, 13, 14:
		return setTo(anyKey(r), strings.Repeat("v", r.IntN(4)))
	case 15:
		return void(anyKey(r))
	}
	o := objectWith(anyLabel(r), anyArk(r), anyRefs(r)...)
	if r.IntN(8) == 0 {
		o.Ca = api.Ca(r.IntN(6))
	}
	if r.IntN(8) == 0 {
		o.Maker = []string{"x", textOf(named('m'))}[r.IntN(2)]
	}
	return putOf(o)
}

// nextStep is a step that the plain state takes, if one is found soon.
func nextStep(r *rand.Rand, p plainState) api.Step {
	x := anyStep(r)
	for range r.IntN(30) {
		q := p.clone()
		if _, e := q.do(x); e == api.OK {
			return x
		}
		x = anyStep(r)
	}
	return x
}

func anySteps(r *rand.Rand, p plainState) []api.Step {
	var out []api.Step
	q := p.clone()
	for range r.IntN(7) {
		x := nextStep(r, q)
		q.do(x)
		out = append(out, x)
	}
	return out
}

// anyScript makes some calls on both, each held.
func anyScript(r *rand.Rand, b *both, calls int) map[api.Errno]int {
	b.t.Helper()
	met := map[api.Errno]int{}
	for range calls {
		if r.IntN(10) == 0 {
			met[b.compact()]++
			continue
		}
		e, _ := b.apply(anySteps(r, b.p)...)
		met[e]++
	}
	return met
}

// P12.1 to P12.5, P12.7: any calls, held against the plain shelf, and opened again.
func TestFollow(t *testing.T) {
	r := sourceOf(2)
	met := map[api.Errno]int{}
	for range 400 {
		b := begin(t, 2000+r.IntN(6000))
		for range 5 {
			for e, n := range anyScript(r, b, 8) {
				met[e] += n
			}
			b.hold("behind any calls")
			holdLooks(t, b)
			ahead, stat := tell(b.s), b.s.Stat()
			b.again(b.limit)
			if tell(b.s) != ahead || b.s.Stat() != stat {
				t.Fatalf("P12.7: opened again: %+v, want %+v: %s", b.s.Stat(), stat, firstUnlike(tell(b.s), ahead))
			}
			b.hold("opened again")
		}
	}
	for _, e := range []api.Errno{api.OK, api.ErrArg, api.ErrObject, api.ErrClash, api.ErrThere, api.ErrNone, api.ErrNeeded, api.ErrFull} {
		if met[e] < 10 {
			t.Errorf("error %d was met %d times: %v", e, met[e], met)
		}
	}
}

// holdLooks holds looks at what is there and what is not.
func holdLooks(t *testing.T, b *both) {
	t.Helper()
	for _, letter := range []byte("abcdefxyz") {
		l := named(letter)
		for _, l := range []api.Label{l, {Hash: l.Hash, Name: "other"}} {
			o, e := b.s.Get(l)
			at := b.p.at(l)
			if b.s.Has(l) != (at >= 0) || (e == api.OK) != (at >= 0) || at < 0 && (e != api.ErrNone || !sameObject(o, api.Object{})) {
				t.Fatalf("P12.4: Get(%s) = %s, %d", showLabel(l), showObject(o), e)
			}
			if at < 0 && len(b.s.Referrers(l)) != 0 {
				t.Fatalf("P12.4: Referrers(%s) = %s", showLabel(l), showLabels(b.s.Referrers(l)))
			}
		}
		to, e := b.s.Same(l)
		at := slices.IndexFunc(b.p.sames, func(x api.Same) bool { return x.Old == l })
		if at < 0 && (to != api.Label{} || e != api.ErrNone) {
			t.Fatalf("P12.4: Same(%s) = %s, %d", showLabel(l), showLabel(to), e)
		}
	}
}

// turn changes something in a history.
func turn(r *rand.Rand, h *history) {
	lists := [][]string{h.base}
	for _, batch := range h.batches {
		lists = append(lists, batch)
	}
	lists = slices.DeleteFunc(lists, func(l []string) bool { return len(l) == 0 })
	if len(lists) == 0 {
		return
	}
	payloads := lists[r.IntN(len(lists))]
	i := r.IntN(len(payloads))
	entries := cutEntries(payloads[i])
	if len(entries) == 0 {
		return
	}
	at := r.IntN(len(entries))
	switch r.IntN(6) {
	case 0:
		b := []byte(entries[at])
		b[r.IntN(len(b))] ^= 1 << r.IntN(8)
		entries[at] = string(b)
	case 1:
		entries = slices.Delete(entries, at, at+1)
	case 2:
		entries = slices.Insert(entries, at, entries[r.IntN(len(entries))])
	case 3:
		other := r.IntN(len(entries))
		entries[at], entries[other] = entries[other], entries[at]
	case 4:
		entries = slices.Insert(entries, at, anyEntry(r))
	case 5:
		entries[at] = entries[at][:r.IntN(len(entries[at]))]
	}
	payloads[i] = strings.Join(entries, "")
}

// cutEntries is a payload's entries, each as it stands there, up to the first that is none.
func cutEntries(payload string) []string {
	var out []string
	for payload != "" {
		n := 1
		for ; n < len(payload); n++ {
			if l := plainEntries([]string{payload[:n]}); len(l) == 1 && l[0].ok {
				break
			}
		}
		out = append(out, payload[:n])
		payload = payload[n:]
	}
	return out
}

// anyEntry is one that may or may not be taken.
func anyEntry(r *rand.Rand) string {
	l := named("abcdef"[r.IntN(6)])
	switch r.IntN(7) {
	case 0:
		return arkEntry(string(anyArk(r))) + putEntry(objectWith(l, nil), r.IntN(4))
	case 1:
		return putEntry(objectWith(l, nil, named("abcdef"[r.IntN(6)])), r.IntN(4))
	case 2:
		return dropEntry(l)
	case 3:
		return sameEntry(named("xyabc"[r.IntN(5)]), l)
	case 4:
		return madeEntry(anyKey(r), l)
	case 5:
		return valueEntry(anyKey(r), "w")
	}
	return voidEntry(anyKey(r))
}
