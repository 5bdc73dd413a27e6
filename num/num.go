// Package num: numbers in bytes. See doc/01-num.md.
package num

import (
	"slices"

	"loggia/api"
	"loggia/fault"
)

// widest: a uint64 has no more bytes than that.
const widest = 8

// Out gathers numbers and bytes. A zero Out is empty.
type Out struct {
	b []byte
}

// Put adds v's lowest n bytes, the lowest first; nothing if n is not 1 to 8.
func (o *Out) Put(n int, v uint64) {
	if !isWidth(n) {
		return
	}
	for k := range n {
		o.b = append(o.b, byte(v>>(8*k)))
	}
}

// Raw adds these bytes.
func (o *Out) Raw(b []byte) { o.b = append(o.b, b...) }

// Bytes tells what was gathered. It is a copy, so that neither the caller nor a later Put changes the other's.
func (o *Out) Bytes() []byte { return slices.Clone(o.b) }

// In gives back what an Out gathered, from the front on, till the first error.
type In struct {
	rest []byte
	err  api.Errno
}

// Of makes an In over a copy of b: b stays the caller's, who may change it.
func Of(b []byte) *In { return &In{rest: slices.Clone(b)} }

// Take gives back the number that Put made n bytes of. ErrArg: n is not 1 to 8; ErrShort: fewer bytes are left.
func (i *In) Take(n int) uint64 {
	var v uint64
	i.guard(func() {
		fault.Must(isWidth(n), api.ErrArg)
		for k, c := range i.next(n) {
			v |= uint64(c) << (8 * k)
		}
	})
	return v
}

// Raw gives back n bytes. ErrArg: n is below 0; ErrShort: fewer bytes are left.
func (i *In) Raw(n int) []byte {
	var b []byte
	i.guard(func() {
		fault.Must(n >= 0, api.ErrArg)
		b = slices.Clone(i.next(n))
	})
	return b
}

// Left tells how many bytes are left; 0 behind an error.
func (i *In) Left() int { return len(i.rest) }

// Err tells the first error.
func (i *In) Err() api.Errno { return i.err }

// guard does a take and catches the error that it panics with. The bytes go then, and nothing is done any more, so that all is zero from there on and the first error stays.
func (i *In) guard(take func()) {
	if i.err != api.OK {
		return
	}
	if e := fault.Caught(take); e != api.OK {
		i.rest, i.err = nil, e
	}
}

// next moves past the next n bytes (n not below 0). They are In's own: copy them ahead of handing them out.
func (i *In) next(n int) []byte {
	fault.Must(n <= len(i.rest), api.ErrShort)
	b := i.rest[:n]
	i.rest = i.rest[n:]
	return b
}

func isWidth(n int) bool { return n >= 1 && n <= widest }
