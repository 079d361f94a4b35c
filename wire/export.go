package wire

import (
	"graft/api"
	"graft/fit"
	"graft/lay"
	"graft/press"
)

// magic is a stream's first bytes.
const magic = "graftexp"

// Kinds of records.
const (
	kindObject = 1
	kindEnd    = 2
)

// How many bytes the parts of a stream have.
const (
	sumSize   = lay.HalfSize
	frontSize = 1 + lay.NumberSize // a record's kind and number
	headSize  = frontSize + sumSize
	endSize   = lay.NumberSize // the end's body
	maxBody   = api.MaxWord    // an object's
	emptySize = len(magic) + headSize + endSize + sumSize
)

// Export is objects as a stream.
func Export(objects []api.Object) ([]byte, api.Errno) {
	if len(objects) > api.MaxObjects {
		return nil, api.ErrLong
	}
	size := emptySize
	for _, o := range objects {
		if !fit.Object(o) {
			return nil, api.ErrObject
		}
		size += recordSize(bodySize(o))
	}
	out := append(make([]byte, 0, size), magic...)
	for _, o := range objects {
		out = layRecord(out, kindObject, bodySize(o), func(out []byte) []byte { return layBody(out, o) })
	}
	return layRecord(out, kindEnd, endSize, func(out []byte) []byte { return lay.Number(out, len(objects)) }), api.OK
}

// layRecord lays down a record, whose body of so many bytes is laid down by a function.
func layRecord(out []byte, kind byte, size int, body func([]byte) []byte) []byte {
	out = laySummed(out, func(out []byte) []byte { return lay.Number(append(out, kind), size) })
	return laySummed(out, body)
}

// laySummed lays something down, and its sum behind it.
func laySummed(out []byte, put func([]byte) []byte) []byte {
	from := len(out)
	out = put(out)
	return lay.Half(out, press.Crc(out[from:]))
}

// recordSize is how many bytes a record has whose body has so many.
func recordSize(body int) int {
	return headSize + body + sumSize
}

// layBody lays down an object's body.
func layBody(out []byte, o api.Object) []byte {
	out = layLabel(out, o.Label)
	out = layLabels(out, o.Refs)
	out = lay.Word(out, o.Maker)
	out = lay.Number(out, int(o.Ca))
	return lay.Word(out, o.Ark)
}

// bodySize is how many bytes layBody lays down.
func bodySize(o api.Object) int {
	return labelSize(o.Label) + labelsSize(o.Refs) + lay.WordSize(len(o.Maker)) + lay.NumberSize + lay.WordSize(len(o.Ark))
}
