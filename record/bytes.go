package record

import (
	"escrow/api"
	"escrow/cursor"
	"escrow/update"
)

// What stands ahead of the updates: in a RecOurs the kind, in a RecCame the index too, and how many they are.
const (
	oursHead = 1
	cameHead = 1 + 8 + 2
)

// updateMost is how many bytes an update has at most: a Fail's kind, ID and length, and the longest note.
const updateMost = 1 + 2 + 2 + api.MaxNote

// layUpdate lays the bytes of a valid update.
func layUpdate(w *cursor.Writer, u api.Update) {
	b, _ := update.Write(u)
	w.Raw(b)
}

// fields is the record whose fields b begins with, valid or not; false: they aren't all there.
func fields(b string) (api.Record, bool) {
	c := cursor.Open(b)
	r := api.Record{Kind: int(c.U8())}
	switch r.Kind {
	case api.RecOurs:
		return oursFields(b)
	case api.RecSigned:
		r.Index = c.I64()
		r.Counts.Ours = int(c.U16())
		r.Counts.Peers = int(c.U16())
	case api.RecCame:
		return cameFields(b)
	case api.RecRevoked:
		r.Index = c.I64()
		r.Secret = c.Hash()
		r.Point = c.Hash()
	case api.RecFailed:
		r.Code = int(c.U16())
	case api.RecClosed:
		r.Index = c.I64()
	}
	return r, c.Err() == api.OK
}

// oursFields is a RecOurs; its kind is there.
func oursFields(b string) (api.Record, bool) {
	l, _, ok := updates(b[oursHead:], 1)
	if !ok {
		return api.Record{}, false
	}
	return api.Record{Kind: api.RecOurs, Update: l[0]}, true
}

// cameFields is a RecCame; its kind is there.
func cameFields(b string) (api.Record, bool) {
	c := cursor.Open(b)
	r := api.Record{Kind: int(c.U8())}
	r.Index = c.I64()
	n := int(c.U16())
	if c.Err() != api.OK {
		return api.Record{}, false
	}
	l, size, ok := updates(b[cameHead:], n)
	if !ok {
		return api.Record{}, false
	}
	r.Updates = l
	c.Raw(size)
	r.Sig = c.Hash()
	return r, c.Err() == api.OK
}

// updates is the n updates that b begins with, one behind the other, and how many bytes they have; false: there aren't so many.
func updates(b string, n int) ([]api.Update, int, bool) {
	var l []api.Update
	at := 0
	for range n {
		// No more is handed on than an update may have: what stands behind may be long, and would be gone through for each of them.
		u, size, errno := update.Read(b[at:min(at+updateMost, len(b))])
		if errno != api.OK {
			return nil, 0, false
		}
		l = append(l, u)
		at += size
	}
	return l, at, true
}
