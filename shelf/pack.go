package shelf

import "graft/api"

// pack is entries, laid into payloads.
type pack struct {
	full [][]byte
	open []byte // the payload that is not ended yet
	size int    // how many bytes the full ones have
}

// add lays an entry down. Nothing more is laid when there is more than any journal has room for: it is refused as it is,
// and might grow without a bound.
func (p *pack) add(t *tables, x entry) {
	if p.size > api.MaxRoom {
		return
	}
	p.open = t.lay(p.open, x)
	if len(p.open) >= api.MaxPack {
		p.end()
	}
}

// end ends the payload that is open.
func (p *pack) end() {
	p.full = append(p.full, p.open)
	p.size += len(p.open)
	p.open = nil
}

// payloads is all of them.
func (p *pack) payloads() [][]byte {
	if len(p.open) > 0 {
		p.end()
	}
	return p.full
}
