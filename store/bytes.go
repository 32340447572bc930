package store

import (
	"escrow/api"
	"escrow/cursor"
	"escrow/update"
)

const (
	// headSize is what stands ahead of the updates: the number, the side and the three amounts.
	headSize = 8 + 1 + 3*8
	// countSize is what stands ahead of a list of updates: how many they are.
	countSize = 2
	// updateMost is how many bytes an update has at most: a Fail's kind, ID and length, and the longest note.
	updateMost = 1 + 2 + 2 + api.MaxNote
)

// Write: the bytes of a checkpoint. ErrStore.
func Write(n int64, s api.State) (string, api.Errno) {
	if !writable(n, s) {
		return "", api.ErrStore
	}
	w := cursor.New()
	w.I64(n)
	w.U8(uint8(s.Side))
	w.I64(s.Capacity)
	w.I64(s.BaseOurs)
	w.I64(s.BasePeers)
	layUpdates(w, s.Ours)
	layUpdates(w, s.Peers)
	w.I64(s.Local)
	w.I64(s.Remote)
	w.I64(s.Acked)
	layCounts(w, s.At)
	layCounts(w, s.Signed)
	layCounts(w, s.Held)
	layFlag(w, s.Behind)
	w.Hash(s.Points[0])
	w.Hash(s.Points[1])
	w.Hash(s.Sig)
	laySlots(w, s.Shelf)
	w.U32(uint32(s.Failed))
	w.I64(s.Closed)
	return w.Out()
}

// Read: the number and the state of a checkpoint. ErrStore.
func Read(b string) (int64, api.State, api.Errno) {
	n, s, ok := fields(b)
	if !ok {
		return 0, api.State{}, api.ErrStore
	}
	// What can be written Write knows; and where it tells other bytes, these are of another form: a flag that is neither 0 nor 1, or something behind the end.
	own, e := Write(n, s)
	if e != api.OK || own != b {
		return 0, api.State{}, api.ErrStore
	}
	return n, s, api.OK
}

func layUpdates(w *cursor.Writer, l []api.Update) {
	w.U16(uint16(len(l)))
	for _, u := range l {
		b, _ := update.Write(u)
		w.Raw(b)
	}
}

func layCounts(w *cursor.Writer, c api.Counts) {
	w.U16(uint16(c.Ours))
	w.U16(uint16(c.Peers))
}

func laySlots(w *cursor.Writer, l []api.Slot) {
	w.U8(uint8(len(l)))
	for _, slot := range l {
		layFlag(w, slot.Full)
		w.I64(slot.Index)
		w.Hash(slot.Secret)
	}
}

func layFlag(w *cursor.Writer, flag bool) {
	if flag {
		w.U8(1)
		return
	}
	w.U8(0)
}

// fields: what b says as a checkpoint, whether it can be written or not. False: it isn't all there.
func fields(b string) (int64, api.State, bool) {
	r := cursor.Open(b)
	n := r.I64()
	s := api.State{Side: int(r.U8())}
	s.Capacity = r.I64()
	s.BaseOurs = r.I64()
	s.BasePeers = r.I64()
	if r.Err() != api.OK {
		return 0, api.State{}, false
	}
	ours, rest, ok := updates(b[headSize:])
	if !ok {
		return 0, api.State{}, false
	}
	peers, rest, ok := updates(rest)
	if !ok {
		return 0, api.State{}, false
	}
	s.Ours, s.Peers = ours, peers
	ok = tail(&s, rest)
	return n, s, ok
}

// tail: the state gets what b says behind the updates. False: it isn't all there.
func tail(s *api.State, b string) bool {
	r := cursor.Open(b)
	s.Local = r.I64()
	s.Remote = r.I64()
	s.Acked = r.I64()
	s.At = counts(r)
	s.Signed = counts(r)
	s.Held = counts(r)
	s.Behind = r.U8() != 0
	s.Points[0] = r.Hash()
	s.Points[1] = r.Hash()
	s.Sig = r.Hash()
	s.Shelf = slots(r)
	s.Failed = int(r.U32())
	s.Closed = r.I64()
	return r.Err() == api.OK
}

// updates: the list that b begins with, and what stands behind it. False: it isn't all there.
func updates(b string) ([]api.Update, string, bool) {
	r := cursor.Open(b)
	n := int(r.U16())
	if r.Err() != api.OK {
		return nil, "", false
	}
	b = b[countSize:]
	var l []api.Update
	for range n {
		// No more is handed on than an update may have: what stands behind is long, and would be gone through for each of them.
		u, size, e := update.Read(b[:min(updateMost, len(b))])
		if e != api.OK {
			return nil, "", false
		}
		l = append(l, u)
		b = b[size:]
	}
	return l, b, true
}

func counts(r *cursor.Reader) api.Counts {
	ours := int(r.U16())
	peers := int(r.U16())
	return api.Counts{Ours: ours, Peers: peers}
}

func slots(r *cursor.Reader) []api.Slot {
	var l []api.Slot
	for range int(r.U8()) {
		slot := api.Slot{Full: r.U8() != 0}
		slot.Index = r.I64()
		slot.Secret = r.Hash()
		l = append(l, slot)
	}
	return l
}
