package engine

import (
	"bytes"
	"crypto/sha256"
	"encoding/binary"
	"encoding/hex"
	"fmt"
	"slices"
	"strings"

	"graft/api"
	"graft/ark"
	"graft/label"
	"graft/shelf"
)

// The chapter, read plainly: on a shelf of its own, with nothing done in pieces, each question asked of all places and all pairs.

type plain struct {
	s *shelf.Shelf
}

func (p plain) take(objects []api.Object, chunk int) api.Outcome {
	if chunk < 1 {
		return api.Outcome{Err: api.ErrArg}
	}
	if len(objects) > 4096 {
		return api.Outcome{Err: api.ErrLong}
	}
	printable := func(l api.Label) bool { _, e := label.Print(l); return e == api.OK }
	for i, o := range objects {
		_, maker, _ := label.Parse(o.Maker)
		rising := true
		for k := 1; k < len(o.Refs); k++ {
			rising = rising && label.Compare(o.Refs[k-1], o.Refs[k]) < 0
		}
		refs := !slices.ContainsFunc(o.Refs, func(l api.Label) bool { return !printable(l) })
		if !printable(o.Label) || len(o.Refs) > 256 || !refs || !rising || o.Maker != "" && maker != api.OK || o.Ca != 0 {
			return api.Outcome{Err: api.ErrObject, At: o.Label, Place: i}
		}
		if _, e, at := ark.Parse(o.Ark); e != api.OK {
			return api.Outcome{Err: api.ErrArk, At: o.Label, Place: at}
		}
	}
	for i, o := range objects {
		for _, ref := range o.Refs {
			if !p.s.Has(ref) && !slices.ContainsFunc(objects, func(x api.Object) bool { return x.Label == ref }) {
				return api.Outcome{Err: api.ErrDangling, At: o.Label, Other: ref, Place: i}
			}
		}
	}
	var steps []api.Step
	for _, o := range objects {
		steps = append(steps, api.Step{Kind: api.StepPut, Object: o})
	}
	if p.allThere(steps) {
		return api.Outcome{}
	}
	e, at := p.s.Apply(steps)
	out := api.Outcome{Err: e, Place: at}
	if e != api.OK && at < len(objects) {
		out.At = objects[at].Label
	}
	return out
}

// allThere says whether nothing that is to be put is new.
func (p plain) allThere(puts []api.Step) bool {
	for _, x := range puts {
		o, e := p.s.Get(x.Object.Label)
		if e != api.OK || showObject(o) != showObject(x.Object) {
			return false
		}
	}
	return true
}

// add puts an own object on the shelf.
func (p plain) add(o api.Object) api.Outcome {
	out := api.Outcome{At: o.Label}
	steps := []api.Step{{Kind: api.StepPut, Object: o}}
	if p.allThere(steps) {
		return out
	}
	if out.Err, _ = p.s.Apply(steps); out.Err == api.ErrClash || out.Err == api.ErrThere {
		out.Other, _ = p.s.Named(o.Label.Hash)
	}
	return out
}

func (p plain) isOwn(l api.Label) bool {
	o, e := p.s.Get(l)
	return e == api.OK && o.Ca != api.Guest
}

func (p plain) text(name string, data []byte, refs []api.Label) api.Outcome {
	l, e := label.Text(name, data, refs)
	if e != api.OK {
		return api.Outcome{Err: e}
	}
	o := api.Object{Label: l, Refs: label.Sort(refs), Ca: api.ByText}
	if 112+(len(data)+7)/8*8 > 1<<20 {
		return api.Outcome{Err: api.ErrLarge, At: l}
	}
	for _, ref := range o.Refs {
		if !p.isOwn(ref) {
			return api.Outcome{Err: api.ErrDangling, At: l, Other: ref}
		}
	}
	for _, ref := range o.Refs {
		if !strings.Contains(string(data), part(ref)) {
			return api.Outcome{Err: api.ErrScan, At: l, Other: ref}
		}
	}
	o.Ark = file(string(data))
	return p.add(o)
}

func (p plain) tree(name string, n api.Node) api.Outcome {
	if e, _ := ark.Check(n); e != api.OK {
		return api.Outcome{Err: e}
	}
	data, _ := ark.Print(n)
	l, e := label.Source(name, sha256.Sum256(data), nil, false)
	if e != api.OK {
		return api.Outcome{Err: e}
	}
	return p.add(api.Object{Label: l, Ark: data, Ca: api.BySource})
}

func (p plain) lookup(l api.Label) (api.Label, api.Errno) {
	if p.isOwn(l) {
		return l, api.OK
	}
	return p.s.Same(l)
}

// plainMention is where which label is mentioned.
type plainMention struct {
	at int
	of api.Label
}

func plainMentions(data []byte, labels []api.Label) []plainMention {
	parts := map[string]api.Label{}
	for _, l := range labels {
		parts[part(l)] = l
	}
	var out []plainMention
	for at := 0; at+32 <= len(data); at++ {
		if l, is := parts[string(data[at:at+32])]; is {
			out = append(out, plainMention{at, l})
		}
	}
	return out
}

// plainInName says whether a byte of an archive lies within an entry's name: a slash may not stand there.
func plainInName(data []byte, at int) bool {
	turned := bytes.Clone(data)
	turned[at] = '/'
	_, e, place := ark.Parse(turned)
	return e == api.ErrEntry && place == at
}

// plainRename is a Rewrite under way.
type plainRename struct {
	plain
	closure  []api.Label
	objects  map[api.Label]api.Object
	mentions map[api.Label][]plainMention
	r        map[api.Label]api.Label
	fingers  map[api.Label]string
	texts    map[api.Label][]byte // of each guest its group's
	arks     map[api.Label][]byte
	refs     map[api.Label][]api.Label
}

func (p plain) rewrite(roots []api.Label, chunk int) api.Outcome {
	if chunk < 1 {
		return api.Outcome{Err: api.ErrArg}
	}
	for i, l := range roots {
		if !p.s.Has(l) {
			return api.Outcome{Err: api.ErrNone, At: l, Place: i}
		}
	}
	closure, _, _ := p.s.Closure(roots)
	if len(closure) > 2048 {
		return api.Outcome{Err: api.ErrMany, Place: len(closure)}
	}
	w := &plainRename{plain: p, closure: closure, objects: map[api.Label]api.Object{}, mentions: map[api.Label][]plainMention{}}
	for _, l := range closure {
		w.objects[l], _ = p.s.Get(l)
		w.mentions[l] = plainMentions(w.objects[l].Ark, closure)
	}
	for _, look := range []func(api.Label) api.Outcome{w.scan, w.inName, w.cross, w.many, w.twins} {
		if out := w.first(look); out.Err != api.OK {
			return out
		}
	}
	w.nameAll()
	for _, look := range []func(api.Label) api.Outcome{w.clash, w.stray, w.table} {
		if out := w.first(look); out.Err != api.OK {
			return out
		}
	}
	if steps := w.steps(); len(steps) > 0 {
		if e, _ := p.s.Apply(steps); e != api.OK {
			return api.Outcome{Err: e}
		}
	}
	var out api.Outcome
	for _, l := range closure {
		out.Map = append(out.Map, api.Same{Old: l, New: w.r[l]})
	}
	return out
}

func (w *plainRename) first(look func(api.Label) api.Outcome) api.Outcome {
	for _, l := range w.closure {
		if out := look(l); out.Err != api.OK {
			return out
		}
	}
	return api.Outcome{}
}

func (w *plainRename) scan(l api.Label) api.Outcome {
	for _, x := range w.closure {
		i := slices.IndexFunc(w.mentions[l], func(m plainMention) bool { return m.of == x })
		if refers := slices.Contains(w.objects[l].Refs, x); refers != (i >= 0) {
			out := api.Outcome{Err: api.ErrScan, At: l, Other: x}
			if i >= 0 {
				out.Place = w.mentions[l][i].at
			}
			return out
		}
	}
	return api.Outcome{}
}

func (w *plainRename) inName(l api.Label) api.Outcome {
	for _, m := range w.mentions[l] {
		if plainInName(w.objects[l].Ark, m.at) {
			return api.Outcome{Err: api.ErrInName, At: l, Place: m.at}
		}
	}
	return api.Outcome{}
}

func (w *plainRename) cross(l api.Label) api.Outcome {
	for i := 1; i < len(w.mentions[l]); i++ {
		if w.mentions[l][i].at < w.mentions[l][i-1].at+32 {
			return api.Outcome{Err: api.ErrCross, At: l, Place: w.mentions[l][i].at}
		}
	}
	return api.Outcome{}
}

func (w *plainRename) isGuest(l api.Label) bool { return w.objects[l].Ca == api.Guest }

// group is the labels that an object leads to and that lead to it, in order.
func (p plain) group(l api.Label) []api.Label {
	from, _, _ := p.s.Closure([]api.Label{l})
	return slices.DeleteFunc(from, func(x api.Label) bool {
		back, _, _ := p.s.Closure([]api.Label{x})
		return !slices.Contains(back, l)
	})
}

func (w *plainRename) many(l api.Label) api.Outcome {
	if n := len(w.group(l)); n > 64 && w.isGuest(l) {
		return api.Outcome{Err: api.ErrMany, At: l, Place: n}
	}
	return api.Outcome{}
}

func (w *plainRename) twins(l api.Label) api.Outcome {
	for _, x := range w.group(l) {
		if w.isGuest(l) && x != l && x.Name == l.Name {
			return api.Outcome{Err: api.ErrTwins, At: l, Other: x}
		}
	}
	return api.Outcome{}
}

// plainMember is one of a group, as the document's "Own names" has it.
type plainMember struct {
	label    api.Label
	data     []byte
	mentions []plainMention // of members
	refs     []api.Label    // outside of the group
}

// plainGroupText is chapter 7's text of a group, whose members are brought into the order of their names.
func plainGroupText(members []plainMember) []byte {
	slices.SortFunc(members, func(a, b plainMember) int { return strings.Compare(a.label.Name, b.label.Name) })
	var out []byte
	number := func(n int) { out = binary.LittleEndian.AppendUint64(out, uint64(n)) }
	word := func(b []byte) {
		number(len(b))
		out = append(out, b...)
		for len(out)%8 > 0 {
			out = append(out, 0)
		}
	}
	word([]byte("graft-group-1"))
	number(len(members))
	for _, m := range members {
		word([]byte(m.label.Name))
		number(len(m.refs))
		for _, ref := range m.refs {
			word([]byte(part(ref) + "-" + ref.Name))
		}
		masked := bytes.Clone(m.data)
		for _, x := range m.mentions {
			copy(masked[x.at:], make([]byte, 32))
		}
		word(masked)
		number(len(m.mentions))
		for _, x := range m.mentions {
			number(x.at)
			number(slices.IndexFunc(members, func(m plainMember) bool { return m.label == x.of }))
		}
	}
	return out
}

// plainFinger is chapter 2's text of a group's member.
func plainFinger(groupText []byte, index int, name string) string {
	sum := sha256.Sum256(groupText)
	return fmt.Sprintf("member:%d:sha256:%s:/graft/store:%s", index, hex.EncodeToString(sum[:]), name)
}

// plainCall is the label of a finger's text.
func plainCall(finger, name string) api.Label {
	l := api.Label{Name: name}
	for i, b := range sha256.Sum256([]byte(finger)) {
		l.Hash[i%20] ^= b
	}
	return l
}

func (w *plainRename) nameAll() {
	w.r, w.fingers, w.texts = map[api.Label]api.Label{}, map[api.Label]string{}, map[api.Label][]byte{}
	for _, l := range w.closure {
		w.name(l)
	}
	w.arks, w.refs = map[api.Label][]byte{}, map[api.Label][]api.Label{}
	for _, l := range w.closure {
		data := bytes.Clone(w.objects[l].Ark)
		for _, m := range w.mentions[l] {
			copy(data[m.at:], part(w.r[m.of]))
		}
		w.arks[l] = data
		var refs []api.Label
		for _, ref := range w.objects[l].Refs {
			refs = append(refs, w.r[ref])
		}
		w.refs[l] = label.Sort(refs)
	}
}

// name gives an object's group its new labels, and ahead of it all that it refers to.
func (w *plainRename) name(l api.Label) {
	if _, done := w.r[l]; done {
		return
	}
	if !w.isGuest(l) {
		w.r[l] = l
		return
	}
	group := w.group(l)
	var members []plainMember
	for _, x := range group {
		m := plainMember{label: x, data: bytes.Clone(w.objects[x].Ark)}
		for _, ref := range w.objects[x].Refs {
			if !slices.Contains(group, ref) {
				w.name(ref)
				m.refs = append(m.refs, w.r[ref])
			}
		}
		m.refs = label.Sort(m.refs)
		for _, x := range w.mentions[x] {
			if slices.Contains(group, x.of) {
				m.mentions = append(m.mentions, x)
			} else {
				copy(m.data[x.at:], part(w.r[x.of]))
			}
		}
		members = append(members, m)
	}
	text := plainGroupText(members)
	for i, m := range members {
		w.texts[m.label] = text
		w.fingers[m.label] = plainFinger(text, i, m.label.Name)
		w.r[m.label] = plainCall(w.fingers[m.label], m.label.Name)
	}
}

func (w *plainRename) clash(l api.Label) api.Outcome {
	if !w.isGuest(l) {
		return api.Outcome{}
	}
	r := w.r[l]
	out := api.Outcome{Err: api.ErrClash, At: l}
	for _, x := range w.s.List() {
		if x != r && x.Hash == r.Hash {
			out.Other = x
			out.First, out.Second = w.texts2(l, x)
			return out
		}
	}
	if o, e := w.s.Get(r); e == api.OK && (o.Ca != api.ByGroup || !bytes.Equal(o.Ark, w.arks[l]) || !slices.Equal(o.Refs, w.refs[l])) {
		out.Other = r
		out.First, out.Second = w.texts2(l, r)
		return out
	}
	return api.Outcome{} // the two other grounds need two texts with one sum
}

// texts2 is the two texts of a clash with an object on the shelf.
func (w *plainRename) texts2(l, other api.Label) ([]byte, []byte) {
	first := []byte(w.fingers[l])
	finger, text := w.proof(other)
	if finger == w.fingers[l] {
		return w.texts[l], text
	}
	return first, []byte(finger)
}

func (w *plainRename) stray(l api.Label) api.Outcome {
	all := slices.Clone(w.closure)
	for _, x := range w.closure {
		all = append(all, w.r[x])
	}
	for _, m := range plainMentions(w.arks[l], all) {
		if !slices.ContainsFunc(w.mentions[l], func(x plainMention) bool { return x.at == m.at }) {
			return api.Outcome{Err: api.ErrStray, At: l, Place: m.at}
		}
	}
	return api.Outcome{}
}

func (w *plainRename) table(l api.Label) api.Outcome {
	if to, e := w.s.Same(l); w.isGuest(l) && e == api.OK && to != w.r[l] {
		return api.Outcome{Err: api.ErrTable, At: l, Other: to}
	}
	return api.Outcome{}
}

func (w *plainRename) steps() []api.Step {
	var news []api.Label
	for _, l := range w.closure {
		news = append(news, w.r[l])
	}
	var steps []api.Step
	for _, r := range label.Sort(news) {
		for _, l := range w.closure {
			if w.r[l] == r && !w.s.Has(r) {
				steps = append(steps, api.Step{Kind: api.StepPut, Object: api.Object{Label: r, Refs: w.refs[l], Ark: w.arks[l], Ca: api.ByGroup}})
				break
			}
		}
	}
	for _, l := range w.closure {
		if _, e := w.s.Same(l); w.isGuest(l) && e != api.OK {
			steps = append(steps, api.Step{Kind: api.StepSame, Same: api.Same{Old: l, New: w.r[l]}})
		}
	}
	return steps
}

func (p plain) verify(l api.Label, chunk int) api.Outcome {
	if chunk < 1 {
		return api.Outcome{Err: api.ErrArg}
	}
	o, e := p.s.Get(l)
	if e != api.OK {
		return api.Outcome{Err: api.ErrNone}
	}
	if o.Ca == api.Guest {
		return api.Outcome{}
	}
	if finger, _ := p.content(l); finger == "" || plainCall(finger, l.Name) != l {
		return api.Outcome{Err: api.ErrWrong, At: l}
	}
	for _, ref := range o.Refs {
		if !p.isOwn(ref) {
			return api.Outcome{Err: api.ErrWrong, At: l, Other: ref}
		}
	}
	return api.Outcome{}
}

// proof is the finger's text of an own object of which Verify is OK, and of one by a group the group's text; else none.
func (p plain) proof(l api.Label) (string, []byte) {
	if !p.isOwn(l) || p.verify(l, 1).Err != api.OK {
		return "", nil
	}
	return p.content(l)
}

// content is the finger's text that an own object's content makes, and of one by a group the group's text; "" if it makes none.
func (p plain) content(l api.Label) (string, []byte) {
	o, _ := p.s.Get(l)
	n, _, _ := ark.Parse(o.Ark)
	plainly := n.Kind == api.KindFile && !n.Exec
	behind := ":/graft/store:" + l.Name
	switch o.Ca {
	case api.ByText:
		if !plainly {
			return "", nil
		}
		head := "text"
		for _, ref := range o.Refs {
			head += ":" + textOf(ref)
		}
		return head + fmt.Sprintf(":sha256:%x", sha256.Sum256(n.Data)) + behind, nil
	case api.BySource:
		if len(o.Refs) > 0 {
			return "", nil
		}
		return fmt.Sprintf("source:sha256:%x", sha256.Sum256(o.Ark)) + behind, nil
	case api.ByFlat:
		if len(o.Refs) > 0 || !plainly {
			return "", nil
		}
		inner := sha256.Sum256(fmt.Appendf(nil, "fixed:out:sha256:%x:", sha256.Sum256(n.Data)))
		return fmt.Sprintf("output:out:sha256:%x", inner) + behind, nil
	}
	return p.groupContent(l)
}

func (p plain) groupContent(l api.Label) (string, []byte) {
	group := p.group(l)
	if len(group) > 64 {
		return "", nil
	}
	var members []plainMember
	for _, x := range group {
		o, _ := p.s.Get(x)
		m := plainMember{label: x, data: o.Ark, mentions: plainMentions(o.Ark, group)}
		for i := 1; i < len(m.mentions); i++ {
			if m.mentions[i].at < m.mentions[i-1].at+32 {
				return "", nil
			}
		}
		m.refs = slices.DeleteFunc(o.Refs, func(ref api.Label) bool { return slices.Contains(group, ref) })
		if o.Ca != api.ByGroup || slices.ContainsFunc(members, func(m plainMember) bool { return m.label.Name == x.Name }) {
			return "", nil
		}
		members = append(members, m)
	}
	text := plainGroupText(members)
	return plainFinger(text, slices.IndexFunc(members, func(m plainMember) bool { return m.label == l }), l.Name), text
}
