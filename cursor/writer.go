package cursor

import (
	"math"

	"escrow/api"
)

// Writer lays values down as bytes.
type Writer struct {
	bytes []byte
	fault api.Errno
}

// New is a writer that has no bytes.
func New() *Writer { return &Writer{} }

// U8 lays down a byte.
func (w *Writer) U8(v uint8) { put(w, v) }

// U16 lays down two bytes.
func (w *Writer) U16(v uint16) { put(w, v) }

// U32 lays down four bytes.
func (w *Writer) U32(v uint32) { put(w, v) }

// U64 lays down eight bytes.
func (w *Writer) U64(v uint64) { put(w, v) }

// I64 lays down eight bytes.
func (w *Writer) I64(v int64) { put(w, uint64(v)) }

// Hash lays down a hash.
func (w *Writer) Hash(h api.Hash) {
	if w.fault == api.OK {
		w.bytes = append(w.bytes, h[:]...)
	}
}

// Text lays down a length and a text.
func (w *Writer) Text(s string) {
	if len(s) > math.MaxUint16 {
		w.stop(api.ErrLong)
		return
	}
	w.U16(uint16(len(s)))
	w.Raw(s)
}

// Raw lays down a text as it is.
func (w *Writer) Raw(s string) {
	if w.fault == api.OK {
		w.bytes = append(w.bytes, s...)
	}
}

// Out is all bytes so far.
func (w *Writer) Out() (string, api.Errno) { return string(w.bytes), w.fault }

// Len is how many bytes it has.
func (w *Writer) Len() int { return len(w.bytes) }

// stop breaks the writer. Its bytes are told no more, so they are let go.
func (w *Writer) stop(fault api.Errno) {
	w.bytes, w.fault = nil, fault
}

// put lays down a number of any width.
func put[N number](w *Writer, v N) {
	if w.fault == api.OK {
		w.bytes = lay(w.bytes, v)
	}
}
