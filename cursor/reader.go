package cursor

import (
	"strings"

	"escrow/api"
)

// Reader reads values from bytes.
type Reader struct {
	rest  string // what isn't read; empty, if the reader is broken
	fault api.Errno
}

// Open is a reader that has read nothing.
func Open(b string) *Reader { return &Reader{rest: b} }

// U8 reads a byte.
func (r *Reader) U8() uint8 { return get[uint8](r) }

// U16 reads two bytes.
func (r *Reader) U16() uint16 { return get[uint16](r) }

// U32 reads four bytes.
func (r *Reader) U32() uint32 { return get[uint32](r) }

// U64 reads eight bytes.
func (r *Reader) U64() uint64 { return get[uint64](r) }

// I64 reads eight bytes.
func (r *Reader) I64() int64 { return int64(get[uint64](r)) }

// Hash reads a hash.
func (r *Reader) Hash() api.Hash {
	var h api.Hash
	copy(h[:], r.take(len(h)))
	return h
}

// Text reads a length and a text of at most so many bytes.
func (r *Reader) Text(most int) string {
	// That the length was read shows nowhere if the text then breaks the reader.
	n := int(r.U16())
	if n > most {
		r.stop(api.ErrLong)
	}
	return strings.Clone(r.take(n))
}

// Raw reads so many bytes.
func (r *Reader) Raw(n int) string {
	if n < 0 {
		r.stop(api.ErrArg)
	}
	return strings.Clone(r.take(n))
}

// Err is the fault.
func (r *Reader) Err() api.Errno { return r.fault }

// Rest is what isn't read.
func (r *Reader) Rest() string { return strings.Clone(r.rest) }

// Done is the fault, or that bytes are left.
func (r *Reader) Done() api.Errno {
	if r.rest != "" {
		return api.ErrForm
	}
	return r.fault
}

// stop breaks the reader, if it isn't broken: the first fault stays.
func (r *Reader) stop(fault api.Errno) {
	if r.fault == api.OK {
		r.rest, r.fault = "", fault
	}
}

// take reads n bytes; it has none if the reader is broken, or breaks by this. (n is below 0 for a broken reader alone.)
func (r *Reader) take(n int) string {
	if n > len(r.rest) {
		r.stop(api.ErrShort)
	}
	if r.fault != api.OK {
		return ""
	}
	b := r.rest[:n]
	r.rest = r.rest[n:]
	return b
}

// get reads a number of any width.
func get[N number](r *Reader) N { return read[N](r.take(width[N]())) }
