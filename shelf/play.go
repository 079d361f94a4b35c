package shelf

import "graft/api"

// play is the state that a story comes to; or the error, the batch's number, the payload's.
func play(s api.Story) (tables, api.Errno, int, int) {
	t := trial{tables: newTables()}
	if payload, ok := t.play(s.Base); !ok {
		return tables{}, api.ErrState, 0, payload
	}
	for i, batch := range s.Batches {
		if payload, ok := t.play(batch); !ok {
			return tables{}, api.ErrState, s.First + i, payload
		}
	}
	return t.tables, api.OK, 0, 0
}

// play does the transaction that payloads hold; or the number of the payload with the fault.
func (t *trial) play(payloads [][]byte) (int, bool) {
	const none = -1
	waiting := none // the payload of an ark that no put has taken yet
	t.touched = nil
	for i, x := range entriesOf(payloads) {
		if waiting != none && !t.takesArk(x) {
			return waiting, false
		}
		waiting = none
		if changed, e := t.try(x); e != api.OK || !changed {
			return i, false
		}
		if x.kind == entryArk {
			waiting = i
		}
	}
	if waiting != none {
		return waiting, false
	}
	if e, _ := t.whole(); e != api.OK {
		return len(payloads), false
	}
	return 0, true
}

// takesArk says whether an entry takes the ark that came last.
func (t *trial) takesArk(x entry) bool {
	return x.kind == entryPut && x.object.ark == t.next-1
}
