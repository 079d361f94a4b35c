package sweep

import (
	"graft/api"
	"graft/label"
	"graft/lay"
	"graft/shelf"
)

// profile is what a profile's value says.
type profile struct {
	now  int // the number of the present generation; 0: none
	last int // the greatest number that a generation ever had
	gens []api.Gen
}

// profileNamed is a profile; or ErrNone, if there is none yet; or ErrProfile, if there can't be one of this name, or
// the value in its place is none.
func profileNamed(s *shelf.Shelf, name string) (profile, api.Errno) {
	if !isName(name) {
		return profile{}, api.ErrProfile
	}
	data, e := s.Value(profileKey + name)
	if e != api.OK {
		return profile{}, e
	}
	p, ok := readProfile(data)
	if !ok {
		return profile{}, api.ErrProfile
	}
	return p, api.OK
}

// readProfile is the profile that a value says; false if it is not well formed.
func readProfile(data []byte) (profile, bool) {
	r := lay.NewReader(data)
	var p profile
	p.now = r.Half()
	p.last = r.Half()
	for r.Left() > 0 {
		number := r.Half()
		p.gens = append(p.gens, api.Gen{Number: number, Label: readLabel(&r)})
	}
	if r.Broken() || !p.right() {
		return profile{}, false
	}
	return p, true
}

func readLabel(r *lay.Reader) api.Label {
	l, e, _ := label.ParseBase(string(r.Text()))
	if e != api.OK {
		r.Break()
	}
	return l
}

// right says whether the numbers of a profile that was read may be these.
func (p profile) right() bool {
	if p.last > api.MaxGen || len(p.gens) > api.MaxGens {
		return false
	}
	before := 0
	for _, g := range p.gens {
		if g.Number <= before || g.Number > p.last {
			return false
		}
		before = g.Number
	}
	return p.mayBeNow(p.now)
}

// find is the generation with a number.
func (p profile) find(number int) (api.Gen, bool) {
	for _, g := range p.gens {
		if g.Number == number {
			return g, true
		}
	}
	return api.Gen{}, false
}

// mayBeNow says whether a number is that of a generation, or says that none is the present one.
func (p profile) mayBeNow(number int) bool {
	_, there := p.find(number)
	return there || number == 0
}

// advance brings a new generation, which is the present one then.
func (p *profile) advance(l api.Label) {
	p.last++
	p.now = p.last
	p.gens = append(p.gens, api.Gen{Number: p.last, Label: l})
}

// trim takes generations off, but for the present one and the last ones, so many of them: how many went.
func (p *profile) trim(keep int) int {
	old := len(p.gens) - keep
	var left []api.Gen
	for i, g := range p.gens {
		if i >= old || g.Number == p.now {
			left = append(left, g)
		}
	}
	went := len(p.gens) - len(left)
	p.gens = left
	return went
}

// put makes a profile a key's value.
func (p profile) put(s *shelf.Shelf, name string) api.Errno {
	return apply(s, api.Step{Kind: api.StepValue, Key: profileKey + name, Value: p.laid()})
}

// laid is a profile as a value.
func (p profile) laid() []byte {
	out := lay.Half(lay.Half(nil, uint32(p.now)), uint32(p.last))
	for _, g := range p.gens {
		base, _ := label.Base(g.Label)
		out = lay.Text(lay.Half(out, uint32(g.Number)), base)
	}
	return out
}
