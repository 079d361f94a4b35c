package journal

import (
	"graft/lay"
	"graft/press"
)

// Kinds of records.
const (
	kindHead byte = 1 + iota
	kindBase
	kindBaseEnd
	kindPayload
	kindCommit
)

// What a record is laid of: its front, of which the last four bytes are a sum, its body, the body's sum.
const (
	mark       = 0x9e // every record's first byte
	numberAt   = 2
	lengthAt   = numberAt + lay.NumberSize
	frontSumAt = lengthAt + lay.HalfSize
	frontSize  = frontSumAt + lay.HalfSize
	recordSize = frontSize + lay.HalfSize // of one without a body
)

// Bodies of heads and commits.
const (
	headBody   = lay.NumberSize
	commitBody = lay.HalfSize
)

// layRecord lays down a record behind what is there.
func layRecord(out []byte, kind byte, number int, body []byte) []byte {
	front := len(out)
	out = append(out, mark, kind)
	out = lay.Number(out, number)
	out = lay.Half(out, uint32(len(body)))
	out = lay.Half(out, press.Crc(out[front:]))
	out = append(out, body...)
	return lay.Half(out, press.Crc(body))
}

// layBodies lays down a record for each of some bodies, numbered from 0 on.
func layBodies(out []byte, kind byte, bodies [][]byte) []byte {
	for i, body := range bodies {
		out = layRecord(out, kind, i, body)
	}
	return out
}

// bodiesSize is how many bytes the records of some bodies have.
func bodiesSize(bodies [][]byte) int {
	size := 0
	for _, body := range bodies {
		size += recordSize + len(body)
	}
	return size
}

// baseSize is how many bytes a file has up to its base's end.
func baseSize(base [][]byte) int {
	return recordSize + headBody + bodiesSize(base) + recordSize
}

// layBase is a file up to its base's end.
func layBase(gen, first int, base [][]byte) []byte {
	out := make([]byte, 0, baseSize(base))
	out = layRecord(out, kindHead, gen, lay.Number(nil, first))
	out = layBodies(out, kindBase, base)
	return layRecord(out, kindBaseEnd, len(base), nil)
}

// batchSize is how many bytes a batch has in a file.
func batchSize(batch [][]byte) int {
	return bodiesSize(batch) + recordSize + commitBody
}

// layBatch is a batch as it stands in a file.
func layBatch(number int, batch [][]byte) []byte {
	out := layBodies(make([]byte, 0, batchSize(batch)), kindPayload, batch)
	return layRecord(out, kindCommit, number, lay.Half(nil, uint32(len(batch))))
}
