package journal

import (
	"bytes"
	"slices"

	"graft/api"
	"graft/lay"
	"graft/press"
)

// reader goes over a file's records. Where the file breaks it panics with a breach, so that none of
// its parts has to ask whether another one has come to an end.
type reader struct {
	data []byte
	at   int // how far it has come
	from int // where the record that it is at begins
	told api.Story
}

// breach is what a reader gave up for: the file is spoilt at a place, or torn there.
type breach struct {
	spoilt bool
	at     int
}

// record is one that was read; its body is a part of the file.
type record struct {
	kind   byte
	number uint64
	length int
	body   []byte
}

// rule says of a kind of record which numbers and lengths it may have at a place.
type rule struct {
	kind              byte
	least, most       uint64
	shortest, longest int
}

// readFile is what a file tells if it is alone on a disk, up to where it breaks.
func readFile(file int, data []byte) (s api.Story, b breach) {
	r := &reader{data: data, told: api.Story{File: -1}}
	defer func() {
		b, _ = recover().(breach)
		s = r.told
	}()
	r.story(file)
	return r.told, breach{}
}

// story reads all of a file. Nothing is told of a file that breaks ahead of its base's end.
func (r *reader) story(file int) {
	gen, first := r.head()
	base := r.base()
	r.told = api.Story{File: file, Good: r.at, Gen: gen, First: first, Base: base}
	for r.at < len(r.data) {
		batch := r.batch(first + len(r.told.Batches))
		r.told.Batches = append(r.told.Batches, batch)
		r.told.Good = r.at
	}
}

// head reads the generation and the number of the first batch.
func (r *reader) head() (int, int) {
	x := r.record(rule{kindHead, 1, api.MaxNumber, headBody, headBody})
	first := lay.Read(x.body)
	r.spoiltIf(first < 1 || first > api.MaxNumber)
	return int(x.number), int(first)
}

// base reads the base's bodies and its end.
func (r *reader) base() [][]byte {
	var out [][]byte
	for {
		n := len(out)
		x := r.record(bodyRule(kindBase, n), rule{kindBaseEnd, uint64(n), uint64(n), 0, 0})
		if x.kind == kindBaseEnd {
			return out
		}
		out = append(out, bytes.Clone(x.body))
	}
}

// batch reads the payloads' bodies and the commit of a batch that must have this number.
func (r *reader) batch(number int) [][]byte {
	commit := rule{kindCommit, uint64(number), min(uint64(number), api.MaxNumber), commitBody, commitBody}
	var out [][]byte
	for {
		x := r.record(bodyRule(kindPayload, len(out)), commit)
		if x.kind == kindCommit {
			r.spoiltIf(lay.Read(x.body) != uint64(len(out)))
			return out
		}
		out = append(out, bytes.Clone(x.body))
	}
}

// bodyRule is what a record of a base or a batch must be behind n others; none may stand behind too many.
func bodyRule(kind byte, n int) rule {
	return rule{kind, uint64(n), min(uint64(n), api.MaxBatch-1), 0, api.MaxRecord}
}

// record reads the record that comes, which one of the rules must let stand here.
func (r *reader) record(rules ...rule) record {
	r.from = r.at
	rest := r.data[r.at:]
	r.spoiltIf(len(rest) > 0 && rest[0] != mark)
	r.tornIf(len(rest) < frontSize)
	x := record{kind: rest[1], number: lay.Read(rest[numberAt:lengthAt]), length: int(lay.Read(rest[lengthAt:frontSumAt]))}
	r.spoiltIf(!hasSum(rest[:frontSumAt], rest[frontSumAt:]) || !slices.ContainsFunc(rules, x.obeys))
	r.tornIf(len(rest) < recordSize+x.length)
	x.body = rest[frontSize : frontSize+x.length]
	r.spoiltIf(!hasSum(x.body, rest[frontSize+x.length:]))
	r.at += recordSize + x.length
	return x
}

// obeys says whether a rule lets a record stand.
func (x record) obeys(u rule) bool {
	return x.kind == u.kind && x.number >= u.least && x.number <= u.most && x.length >= u.shortest && x.length <= u.longest
}

// hasSum says whether the sum of bytes is the one that stands at the beginning of others.
func hasSum(data, sum []byte) bool {
	return uint64(press.Crc(data)) == lay.Read(sum[:lay.HalfSize])
}

func (r *reader) spoiltIf(wrong bool) {
	if wrong {
		panic(breach{spoilt: true, at: r.from})
	}
}

func (r *reader) tornIf(short bool) {
	if short {
		panic(breach{at: r.from})
	}
}
