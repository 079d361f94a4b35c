package depot

import (
	"bytes"
	"crypto/sha256"
	"encoding/binary"
	"fmt"
	"slices"
	"strings"

	"graft/api"
	"graft/ark"
	"graft/card"
	"graft/digest"
	"graft/label"
	"graft/press"
	"graft/shelf"
)

// The chapter, read plainly: files in a map, each question asked anew of all files and all labels.

type plain map[string][]byte

func plainOpen(files []api.DepotFile) (plain, api.Errno, string) {
	if len(files) > 16384 {
		return nil, api.ErrLong, ""
	}
	p := plain{}
	var twice []string
	for _, f := range files {
		if _, is := p[f.Name]; is {
			twice = append(twice, f.Name)
		}
		p[f.Name] = f.Data
	}
	if len(twice) > 0 {
		return nil, api.ErrDepot, slices.Min(twice)
	}
	data, is := p["depot.card"]
	if _, e, _ := card.ReadSign(string(data)); !is || e != api.OK {
		return nil, api.ErrDepot, "depot.card"
	}
	return p, api.OK, ""
}

// names is all files' names, in order.
func (p plain) names() []string {
	var out []string
	for name := range p {
		out = append(out, name)
	}
	slices.Sort(out)
	return out
}

func (p plain) files(names []string) []api.DepotFile {
	var out []api.DepotFile
	for _, name := range names {
		out = append(out, api.DepotFile{Name: name, Data: p[name]})
	}
	return out
}

// good is P17.2.
func (p plain) good(l api.Label) (api.Card, api.Errno) {
	data, is := p[part(l)+".card"]
	if !is {
		return api.Card{}, api.ErrNone
	}
	c, e, _ := card.Read(string(data))
	if text, f := label.Print(l); e != api.OK || f != api.OK || c.Label != text {
		return api.Card{}, api.ErrDepot
	}
	return c, api.OK
}

// archive is P17.3.
func (p plain) archive(c api.Card) ([]byte, api.Errno) {
	data, is := p[c.Url]
	if !is {
		return nil, api.ErrNone
	}
	sum := func(data []byte) string { return digest.Show(sha256.Sum256(data), api.Form32) }
	if len(data) != c.FileSize || sum(data) != c.FileSum {
		return nil, api.ErrDiffer
	}
	if c.Press == "gzip" {
		out, e, _ := press.Gunzip(data, c.ArkSize)
		if e != api.OK {
			return nil, api.ErrDiffer
		}
		data = out
	}
	if len(data) != c.ArkSize || sum(data) != c.ArkSum {
		return nil, api.ErrDiffer
	}
	if _, e, _ := ark.Parse(data); e != api.OK {
		return nil, api.ErrArk
	}
	return data, api.OK
}

// object is P17.4.
func (p plain) object(c api.Card, data []byte) api.Object {
	l, _, _ := label.Parse(c.Label)
	o := api.Object{Label: l, Refs: plainRefs(c), Ark: data}
	if c.Maker != "" {
		o.Maker = "/graft/store/" + c.Maker
	}
	o.Ca = map[string]api.Ca{"text": 1, "source": 2, "group": 3, "flat": 4}[c.Ca]
	return o
}

func plainRefs(c api.Card) []api.Label {
	var out []api.Label
	for _, base := range c.Refs {
		l, _, _ := label.ParseBase(base)
		out = append(out, l)
	}
	return out
}

func packed(data []byte, how string) ([]byte, string) {
	if how == "gzip" {
		return press.Gzip(data), ".ark.gz"
	}
	return data, ".ark"
}

func plainPush(s *shelf.Shelf, files []api.DepotFile, roots []api.Label, keys []api.Key, how string) ([]api.DepotFile, api.Errno, api.Label) {
	if s == nil {
		return nil, api.OK, api.Label{}
	}
	if how != "none" && how != "gzip" {
		return nil, api.ErrArg, api.Label{}
	}
	for _, k := range keys {
		if e, _ := label.Check(k.Name); e != api.OK {
			return nil, api.ErrMark, api.Label{}
		}
		if len(k.Secret) < 1 || len(k.Secret) > 255 {
			return nil, api.ErrArg, api.Label{}
		}
	}
	if len(files) == 0 {
		files = []api.DepotFile{ownCard}
	}
	p, e, _ := plainOpen(files)
	if e != api.OK {
		return nil, e, api.Label{}
	}
	for _, l := range roots {
		if !s.Has(l) {
			return nil, api.ErrNone, l
		}
	}
	closure, _, _ := s.Closure(roots)
	out := plain{}
	for name, data := range p {
		out[name] = data
	}
	for _, l := range closure {
		o, _ := s.Get(l)
		c, e := p.pushed(o, how, out)
		if e != api.OK {
			return nil, e, l
		}
		for _, k := range keys {
			if c, e = card.Sign(c, k); e != api.OK {
				return nil, e, l
			}
		}
		out[part(l)+".card"] = cardText(c)
	}
	if len(out) > 16384 {
		return nil, api.ErrFull, api.Label{}
	}
	return out.files(out.names()), api.OK, api.Label{}
}

// pushed is an object's card, whose file is among those that go out.
func (p plain) pushed(o api.Object, how string, out plain) (api.Card, api.Errno) {
	data, tail := packed(o.Ark, how)
	t, e := card.Tells(o, arkName(data, tail), how, data)
	if _, is := p[part(o.Label)+".card"]; !is {
		if e != api.OK {
			return api.Card{}, e
		}
		if old, is := p[t.Url]; is && !bytes.Equal(old, data) {
			return api.Card{}, api.ErrDiffer
		}
		out[t.Url] = data
		return t, api.OK
	}
	c, e := p.good(o.Label)
	if e != api.OK || c.Label != t.Label || c.ArkSum != t.ArkSum || c.ArkSize != t.ArkSize || !slices.Equal(c.Refs, t.Refs) || c.Maker != t.Maker || c.Ca != t.Ca {
		return api.Card{}, api.ErrDiffer
	}
	if _, e := p.archive(c); e != api.OK {
		return api.Card{}, api.ErrDiffer
	}
	return c, api.OK
}

func plainPull(s *shelf.Shelf, files []api.DepotFile, roots []api.Label, keys []api.Key) ([]api.Label, api.Errno, api.Label) {
	if s == nil {
		return nil, api.OK, api.Label{}
	}
	p, e, _ := plainOpen(files)
	if e != api.OK {
		return nil, e, api.Label{}
	}
	n := map[api.Label]api.Object{}
	for {
		l, is := plainNext(s, roots, n)
		if !is {
			break
		}
		c, e := p.good(l)
		if e != api.OK {
			return nil, e, l
		}
		if len(keys) > 0 && !card.Proves(c, keys) {
			return nil, api.ErrTrust, l
		}
		data, e := p.archive(c)
		if e != api.OK {
			return nil, e, l
		}
		n[l] = p.object(c, data)
	}
	var labels []api.Label
	for l := range n {
		labels = append(labels, l)
	}
	labels = label.Sort(labels)
	for _, l := range labels {
		if plainWrong(n[l], n, s) {
			return nil, api.ErrWrong, l
		}
	}
	if len(labels) == 0 {
		return nil, api.OK, api.Label{}
	}
	var steps []api.Step
	for _, l := range labels {
		steps = append(steps, api.Step{Kind: api.StepPut, Object: n[l]})
	}
	if e, at := s.Apply(steps); e != api.OK {
		return nil, e, append(labels, api.Label{})[at]
	}
	return labels, api.OK, api.Label{}
}

// plainNext is the label that is looked at next.
func plainNext(s *shelf.Shelf, roots []api.Label, n map[api.Label]api.Object) (api.Label, bool) {
	all := slices.Clone(roots)
	for _, o := range n {
		all = append(all, o.Refs...)
	}
	all = slices.DeleteFunc(all, func(l api.Label) bool {
		_, done := n[l]
		return done || s.Has(l)
	})
	if len(all) == 0 {
		return api.Label{}, false
	}
	return slices.MinFunc(all, label.Compare), true
}

// plainWrong is 4 and 5 of P17.6.
func plainWrong(o api.Object, n map[api.Label]api.Object, s *shelf.Shelf) bool {
	if o.Ca == api.Guest {
		return false
	}
	for _, ref := range o.Refs {
		x, in := n[ref]
		if !in && s != nil && s.Has(ref) {
			x, _ = s.Get(ref)
			in = true
		}
		if in && x.Ca == api.Guest {
			return true
		}
	}
	finger := plainContent(o, n)
	return o.Maker != "" || finger == "" || plainCall(finger, o.Label.Name) != o.Label
}

// plainContent is the finger's text that an own object's content makes; "" if it makes none.
func plainContent(o api.Object, n map[api.Label]api.Object) string {
	tree, _, _ := ark.Parse(o.Ark)
	plainly := tree.Kind == api.KindFile && !tree.Exec
	behind := ":/graft/store:" + o.Label.Name
	switch {
	case o.Ca == api.ByText && plainly:
		head := "text"
		for _, ref := range o.Refs {
			head += ":" + textOf(ref)
		}
		return head + fmt.Sprintf(":sha256:%x", sha256.Sum256(tree.Data)) + behind
	case o.Ca == api.BySource && len(o.Refs) == 0:
		return fmt.Sprintf("source:sha256:%x", sha256.Sum256(o.Ark)) + behind
	case o.Ca == api.ByFlat && len(o.Refs) == 0 && plainly:
		inner := sha256.Sum256(fmt.Appendf(nil, "fixed:out:sha256:%x:", sha256.Sum256(tree.Data)))
		return fmt.Sprintf("output:out:sha256:%x", inner) + behind
	case o.Ca == api.ByGroup:
		return plainMember(o, n)
	}
	return ""
}

// plainReach is all labels of objects to which one leads.
func plainReach(l api.Label, n map[api.Label]api.Object) map[api.Label]bool {
	seen := map[api.Label]bool{}
	var go1 func(l api.Label)
	go1 = func(l api.Label) {
		if o, in := n[l]; in && !seen[l] {
			seen[l] = true
			for _, ref := range o.Refs {
				go1(ref)
			}
		}
	}
	go1(l)
	return seen
}

func plainMember(o api.Object, n map[api.Label]api.Object) string {
	var group []api.Object
	var labels []api.Label
	names := map[string]bool{}
	for l := range plainReach(o.Label, n) {
		if plainReach(l, n)[o.Label] {
			group, labels = append(group, n[l]), append(labels, l)
			names[l.Name] = true
		}
	}
	if len(group) > 64 || len(names) < len(group) {
		return ""
	}
	for _, x := range group {
		mentions := plainMentions(x.Ark, labels)
		for i := 1; i < len(mentions); i++ {
			if mentions[i].at < mentions[i-1].at+32 {
				return ""
			}
		}
		if x.Ca != api.ByGroup {
			return ""
		}
	}
	text, order := plainGroupText(group, labels)
	return plainFinger(text, slices.Index(order, o.Label), o.Label.Name)
}

type plainMention struct {
	at int
	of api.Label
}

func plainMentions(data []byte, labels []api.Label) []plainMention {
	parts := map[string]api.Label{}
	for _, l := range labels {
		parts[part(l)] = l
	}
	var out []plainMention
	for at := 0; at+32 <= len(data); at++ {
		if l, is := parts[string(data[at:at+32])]; is {
			out = append(out, plainMention{at, l})
		}
	}
	return out
}

// plainGroupText is chapter 7's text of a group, and its members' labels in the order of their names.
func plainGroupText(group []api.Object, labels []api.Label) ([]byte, []api.Label) {
	group = slices.SortedFunc(slices.Values(group), func(a, b api.Object) int { return strings.Compare(a.Label.Name, b.Label.Name) })
	order := labelsIn(group)
	var out []byte
	number := func(n int) { out = binary.LittleEndian.AppendUint64(out, uint64(n)) }
	word := func(b []byte) {
		number(len(b))
		out = append(out, b...)
		for len(out)%8 > 0 {
			out = append(out, 0)
		}
	}
	word([]byte("graft-group-1"))
	number(len(group))
	for _, o := range group {
		word([]byte(o.Label.Name))
		refs := slices.DeleteFunc(slices.Clone(o.Refs), func(l api.Label) bool { return slices.Contains(labels, l) })
		number(len(refs))
		for _, ref := range refs {
			word([]byte(baseOf(ref)))
		}
		masked := bytes.Clone(o.Ark)
		mentions := plainMentions(o.Ark, labels)
		for _, m := range mentions {
			copy(masked[m.at:], make([]byte, 32))
		}
		word(masked)
		number(len(mentions))
		for _, m := range mentions {
			number(m.at)
			number(slices.Index(order, m.of))
		}
	}
	return out, order
}

// plainFinger is chapter 2's text of a group's member.
func plainFinger(groupText []byte, index int, name string) string {
	return fmt.Sprintf("member:%d:sha256:%x:/graft/store:%s", index, sha256.Sum256(groupText), name)
}

// plainCall is the label of a finger's text.
func plainCall(finger, name string) api.Label {
	l := api.Label{Name: name}
	for i, b := range sha256.Sum256([]byte(finger)) {
		l.Hash[i%20] ^= b
	}
	return l
}

// isCard says whether a name is 32 digits of base 32, .card.
func isCard(name string) bool {
	digits, ok := strings.CutSuffix(name, ".card")
	return ok && len(digits) == 32 && strings.Trim(digits, "0123456789abcdfghijklmnpqrsvwxyz") == ""
}

func plainCheck(files []api.DepotFile, keys []api.Key) (api.Errno, string) {
	p, e, name := plainOpen(files)
	if e != api.OK {
		return e, name
	}
	n := map[api.Label]api.Object{}
	urls := map[string]bool{"depot.card": true}
	for name, data := range p {
		c, e, _ := card.Read(string(data))
		if !isCard(name) || e != api.OK {
			continue
		}
		urls[c.Url] = true
		l, _, _ := label.Parse(c.Label)
		if data, e := p.archive(c); e == api.OK && part(l)+".card" == name {
			n[l] = p.object(c, data)
		}
	}
	for _, name := range p.names() {
		if e := p.defect(name, keys, n, urls); e != api.OK {
			return e, name
		}
	}
	return api.OK, ""
}

func (p plain) defect(name string, keys []api.Key, n map[api.Label]api.Object, urls map[string]bool) api.Errno {
	if !isCard(name) {
		if urls[name] {
			return api.OK
		}
		return api.ErrDepot
	}
	c, e, _ := card.Read(string(p[name]))
	l, _, _ := label.Parse(c.Label)
	if e != api.OK || part(l)+".card" != name {
		return api.ErrDepot
	}
	if len(keys) > 0 && !card.Proves(c, keys) {
		return api.ErrTrust
	}
	if _, e := p.archive(c); e != api.OK {
		return e
	}
	for _, ref := range plainRefs(c) {
		if _, e := p.good(ref); e != api.OK {
			return api.ErrNone
		}
	}
	if plainWrong(n[l], n, nil) {
		return api.ErrWrong
	}
	return api.OK
}

// reached is roots and all that good cards refer to from them onward.
func (p plain) reached(roots []api.Label) []api.Label {
	out := label.Sort(roots)
	for {
		more := slices.Clone(out)
		for _, l := range out {
			if c, e := p.good(l); e == api.OK {
				more = append(more, plainRefs(c)...)
			}
		}
		if more = label.Sort(more); len(more) == len(out) {
			return out
		}
		out = more
	}
}

func plainAsked(files []api.DepotFile, roots []api.Label) (plain, api.Errno) {
	p, e, _ := plainOpen(files)
	if e != api.OK {
		return nil, e
	}
	for _, l := range roots {
		if e, _ := label.Check(l.Name); e != api.OK {
			return nil, e
		}
	}
	return p, api.OK
}

func plainLacks(files []api.DepotFile, roots []api.Label) ([]string, api.Errno) {
	p, e := plainAsked(files, roots)
	if e != api.OK {
		return nil, e
	}
	var out []string
	for _, l := range p.reached(roots) {
		if _, e := p.good(l); e != api.OK {
			out = append(out, baseOf(l))
		}
	}
	slices.Sort(out)
	return out, api.OK
}

func plainPrune(files []api.DepotFile, roots []api.Label) ([]api.DepotFile, api.Errno) {
	p, e := plainAsked(files, roots)
	if e != api.OK {
		return nil, e
	}
	keep := map[string]bool{"depot.card": true}
	for _, l := range p.reached(roots) {
		keep[part(l)+".card"] = true
		if c, e := p.good(l); e == api.OK {
			keep[c.Url] = true
		}
	}
	return p.files(slices.DeleteFunc(p.names(), func(name string) bool { return !keep[name] })), api.OK
}
