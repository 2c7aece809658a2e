// Package octets is layer 1: numbers as bytes, one behind the other, and off them again.
// See shared/doc/01-octets.md.
package octets

import (
	"bytes"

	"gangway/api"
)

// blockSize is how many bytes a Writer gathers in itself ahead of sealing them.
const blockSize = 64

// block is bytes that are never changed again, so copies of a Writer may share it.
type block struct {
	ahead *block
	bytes [blockSize]byte
}

// Writer puts numbers one behind the other; its zero value has none yet.
//
// The newest bytes stand in an array rather than in a slice, because a Writer may be copied by its
// value: two slices that share their room would write over one another's bytes.
type Writer struct {
	sealed *block
	open   [blockSize]byte
	length int
}

// Byte puts b behind what is there.
func (w *Writer) Byte(b byte) {
	w.behind(b)
}

// Two puts n behind what is there, in two bytes.
func (w *Writer) Two(n uint16) {
	w.number(uint64(n), 2)
}

// Four puts n behind what is there, in four bytes.
func (w *Writer) Four(n uint32) {
	w.number(uint64(n), 4)
}

// Eight puts n behind what is there, in eight bytes.
func (w *Writer) Eight(n uint64) {
	w.number(n, 8)
}

// Put puts the bytes of b behind what is there.
func (w *Writer) Put(b []byte) {
	w.behind(b...)
}

// Len tells how many bytes there are.
func (w *Writer) Len() int {
	if w == nil {
		return 0
	}
	return w.length
}

// Out answers a copy of all bytes.
func (w *Writer) Out() []byte {
	if w == nil {
		return nil
	}
	out := make([]byte, w.length)
	at := w.length - w.length%blockSize
	copy(out[at:], w.open[:])
	for b := w.sealed; b != nil; b = b.ahead {
		at -= blockSize
		copy(out[at:], b.bytes[:])
	}
	return out
}

// number puts the lowest size bytes of n, the lowest first.
func (w *Writer) number(n uint64, size int) {
	var row [8]byte
	for i := range size {
		row[i] = byte(n >> (8 * i))
	}
	w.behind(row[:size]...)
}

// behind puts a row of bytes behind what is there. It seals a block as soon as it is full, so that
// the length alone tells how much of the open one is in use.
func (w *Writer) behind(row ...byte) {
	if w == nil {
		return
	}
	for len(row) > 0 {
		n := copy(w.open[w.length%blockSize:], row)
		row = row[n:]
		w.length += n
		if w.length%blockSize == 0 {
			w.sealed = &block{ahead: w.sealed, bytes: w.open}
		}
	}
}

// rest is the bytes that a Reader has not given yet, and what was wrong with what it was asked for.
type rest struct {
	bytes []byte
	err   api.Errno
}

// cut takes the next n bytes off; none behind an error, or if that makes one.
func (l *rest) cut(n int) []byte {
	switch {
	case l.err != api.OK:
		return nil
	case n < 0:
		*l = rest{err: api.ErrArg}
		return nil
	case n > len(l.bytes):
		*l = rest{err: api.ErrShort}
		return nil
	}
	head := l.bytes[:n]
	l.bytes = l.bytes[n:]
	return head
}

func (l *rest) count() int {
	return len(l.bytes)
}

func (l *rest) trouble() api.Errno {
	return l.err
}

// Reader takes numbers off bytes; only Of makes one.
type Reader struct {
	rest
	made bool
}

// Of answers a reader to which all of b is left.
func Of(b []byte) *Reader {
	return &Reader{rest: rest{bytes: bytes.Clone(b)}, made: true}
}

// Byte answers the next byte.
func (r *Reader) Byte() byte {
	return byte(r.number(1))
}

// Two answers the next number of two bytes.
func (r *Reader) Two() uint16 {
	return uint16(r.number(2))
}

// Four answers the next number of four bytes.
func (r *Reader) Four() uint32 {
	return uint32(r.number(4))
}

// Eight answers the next number of eight bytes.
func (r *Reader) Eight() uint64 {
	return r.number(8)
}

// Take answers the next n bytes.
func (r *Reader) Take(n int) []byte {
	return bytes.Clone(r.next(n))
}

// Left tells how many bytes are left.
func (r *Reader) Left() int {
	if r.isNone() {
		return 0
	}
	return r.count()
}

// Err answers the first error that was met.
func (r *Reader) Err() api.Errno {
	if r.isNone() {
		return api.ErrNil
	}
	return r.trouble()
}

// End answers the first error that was met, or whether bytes are left over.
func (r *Reader) End() api.Errno {
	if err := r.Err(); err != api.OK {
		return err
	}
	if r.count() > 0 {
		return api.ErrMore
	}
	return api.OK
}

// isNone has to come ahead of all that is promoted: a nil Reader embeds nothing.
func (r *Reader) isNone() bool {
	return r == nil || !r.made
}

// next takes the next n bytes off without copying them.
func (r *Reader) next(n int) []byte {
	if r.isNone() {
		return nil
	}
	return r.cut(n)
}

// number takes a number of size bytes off, the lowest first; 0, if there are too few.
func (r *Reader) number(size int) uint64 {
	var n uint64
	for i, b := range r.next(size) {
		n |= uint64(b) << (8 * i)
	}
	return n
}
