package shelf

// compacted is the state with its arks' numbers given anew, and the base that has the whole of it.
func (t *tables) compacted() (tables, [][]byte) {
	out := t.copy()
	out.arks, out.numbers = map[int]archive{}, map[string]int{}
	anew := map[int]int{} // the arks' numbers by the old ones
	var laid pack
	for _, l := range t.list() {
		o := t.objects[l.Hash]
		number, there := anew[o.ark]
		if !there {
			number = len(anew)
			anew[o.ark] = number
			a := t.arks[o.ark]
			out.arks[number], out.numbers[a.data] = a, number
			laid.add(t, entry{kind: entryArk, data: []byte(a.data)})
		}
		o.ark = number
		out.objects[l.Hash] = o
		laid.add(t, entry{kind: entryPut, object: o})
	}
	out.next = len(anew)
	t.layRest(&laid)
	return out, laid.payloads()
}

// layRest lays down all that is no object.
func (t *tables) layRest(laid *pack) {
	for _, x := range t.sameList() {
		laid.add(t, entry{kind: entrySame, old: x.Old, label: x.New})
	}
	for _, x := range t.madeList() {
		laid.add(t, entry{kind: entryMade, key: x.Key, label: x.Label})
	}
	for _, key := range t.keys() {
		laid.add(t, entry{kind: entryValue, key: key, data: []byte(t.values[key].data)})
	}
}
