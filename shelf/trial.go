package shelf

import "graft/api"

// trial is tables on which a transaction is tried: a shelf's, copied, or those of a story that is told again.
type trial struct {
	tables
	step    int // the number of the one that is under way
	touched []touch
	laid    pack
}

// touch is an entry that brings or takes an object: what it asks of the whole is told when all is done.
type touch struct {
	step  int
	kind  byte
	label api.Label
}

// run does steps, one behind the other, and lays down what they change.
func (t *trial) run(steps []api.Step) (api.Errno, int) {
	for i, x := range steps {
		t.step = i
		if e := t.take(x); e != api.OK {
			return e, i
		}
	}
	return api.OK, 0
}

// take does a step.
func (t *trial) take(x api.Step) api.Errno {
	switch x.Kind {
	case api.StepPut:
		return t.takePut(x.Object)
	case api.StepDrop:
		return t.enter(entry{kind: entryDrop, label: x.Label})
	case api.StepSame:
		return t.enter(entry{kind: entrySame, old: x.Same.Old, label: x.Same.New})
	case api.StepMade:
		return t.enter(entry{kind: entryMade, key: x.Made.Key, label: x.Made.Label})
	case api.StepValue:
		return t.enter(entry{kind: entryValue, key: x.Key, data: x.Value})
	case api.StepVoid:
		return t.enter(entry{kind: entryVoid, key: x.Key})
	}
	return api.ErrArg
}

// takePut brings an object, and its ark ahead of it if that is new. An object that is there already has no new one.
func (t *trial) takePut(o api.Object) api.Errno {
	number, there := t.numbers[string(o.Ark)]
	if !there {
		number = t.next
		if e := t.enter(entry{kind: entryArk, data: o.Ark}); e != api.OK {
			return e
		}
	}
	return t.enter(entry{kind: entryPut, object: objectOf(o, number)})
}

// enter does an entry, and lays it down if it changes something.
func (t *trial) enter(x entry) api.Errno {
	changed, e := t.try(x)
	if changed {
		t.laid.add(&t.tables, x)
	}
	return e
}

// try does an entry, and remembers which object it touched.
func (t *trial) try(x entry) (bool, api.Errno) {
	switch x.kind {
	case entryPut:
		t.touched = append(t.touched, touch{t.step, x.kind, x.object.label})
	case entryDrop:
		t.touched = append(t.touched, touch{t.step, x.kind, x.label})
	}
	return t.do(x)
}

// whole is what is wrong with the tables when all is done, and with which step. They were closed ahead of the transaction,
// so what is lacking is lacking to an object that came, or has gone.
func (t *trial) whole() (api.Errno, int) {
	for _, x := range t.touched {
		switch {
		case x.kind == entryPut && t.isLacking(x.label):
			return api.ErrNone, x.step
		case x.kind == entryDrop && !t.has(x.label) && t.isNeeded(x.label):
			return api.ErrNeeded, x.step
		}
	}
	return api.OK, 0
}
