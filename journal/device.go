package journal

import (
	"bytes"

	"graft/api"
)

// Device is two files that can be appended to, synced and cut, and that remembers every operation.
type Device struct {
	first moment   // ahead of all operations
	later []moment // behind each of them
}

// moment is what the two files hold between two operations.
type moment [2]content

// content is what a file holds at one moment. Those of all moments lean on the same chunks, so that a
// device that remembers them all keeps each byte once.
type content struct {
	last *chunk
	size int
	safe int // how many of its bytes a crash cannot take
}

// chunk is bytes that came in one piece. It never changes: what is cut off goes on standing in the
// moments ahead of the cut.
type chunk struct {
	ahead *chunk
	from  int // its place in the file
	data  []byte
}

// NewDevice is a device whose files hold these bytes, all safe.
func NewDevice(d api.Disk) *Device {
	v := &Device{}
	for file, data := range d.Files {
		v.first[file] = content{}.with(data).synced()
	}
	return v
}

// Append puts bytes behind a file's, loose.
func (v *Device) Append(file int, p []byte) api.Errno {
	return v.do(file, func(c content) (content, api.Errno) {
		if c.size+len(p) > api.MaxRoom {
			return content{}, api.ErrLong
		}
		return c.with(p), api.OK
	})
}

// Sync makes a file's loose bytes safe.
func (v *Device) Sync(file int) api.Errno {
	return v.do(file, func(c content) (content, api.Errno) {
		return c.synced(), api.OK
	})
}

// Cut takes a file's bytes from n on off, for good.
func (v *Device) Cut(file int, n int) api.Errno {
	return v.do(file, func(c content) (content, api.Errno) {
		if n < 0 || n > c.size {
			return content{}, api.ErrArg
		}
		return c.cut(n), api.OK
	})
}

// do does an operation on a file, and remembers it if it is not refused.
func (v *Device) do(file int, operation func(content) (content, api.Errno)) api.Errno {
	if v == nil {
		return api.OK
	}
	if file != 0 && file != 1 {
		return api.ErrArg
	}
	m := v.at(v.Count())
	c, e := operation(m[file])
	if e != api.OK {
		return e
	}
	m[file] = c
	v.later = append(v.later, m)
	return api.OK
}

// Disk is all bytes now.
func (v *Device) Disk() api.Disk {
	if v == nil {
		return api.Disk{}
	}
	return v.at(v.Count()).disk()
}

// Count is how many operations were done.
func (v *Device) Count() int {
	if v == nil {
		return 0
	}
	return len(v.later)
}

// At is what the disk holds if the power fails when n operations are done and so many loose bytes of each file are kept.
func (v *Device) At(n int, keep [2]int) (api.Disk, api.Errno) {
	switch {
	case v == nil:
		return api.Disk{}, api.OK
	case n < 0 || n > v.Count() || keep[0] < 0 || keep[1] < 0:
		return api.Disk{}, api.ErrArg
	}
	m := v.at(n)
	for file, c := range m {
		m[file] = c.cut(c.safe + min(keep[file], c.size-c.safe))
	}
	return m.disk(), api.OK
}

// size is how many bytes a file has now.
func (v *Device) size(file int) int {
	return v.at(v.Count())[file].size
}

// at is what the files hold when n operations are done.
func (v *Device) at(n int) moment {
	switch {
	case v == nil:
		return moment{}
	case n == 0:
		return v.first
	}
	return v.later[n-1]
}

// disk is the files' bytes, in new memory.
func (m moment) disk() api.Disk {
	var d api.Disk
	for file, c := range m {
		d.Files[file] = c.bytes()
	}
	return d
}

// with is what a file holds when loose bytes have come behind its own.
func (c content) with(p []byte) content {
	if len(p) > 0 {
		c.last = &chunk{ahead: c.last, from: c.size, data: bytes.Clone(p)}
		c.size += len(p)
	}
	return c
}

// synced is what a file holds when all its bytes are safe.
func (c content) synced() content {
	c.safe = c.size
	return c
}

// cut is what a file holds when its first n bytes alone are left.
func (c content) cut(n int) content {
	for c.last != nil && c.last.from >= n {
		c.last = c.last.ahead
	}
	c.size, c.safe = n, min(c.safe, n)
	return c
}

// bytes is all of it, in new memory.
func (c content) bytes() []byte {
	out := make([]byte, c.size)
	end := c.size // where the chunk that is looked at was cut off
	for k := c.last; k != nil; k = k.ahead {
		copy(out[k.from:end], k.data)
		end = k.from
	}
	return out
}
