package msg

import (
	"escrow/api"
	"escrow/cursor"
	"escrow/update"
)

// lay is the bytes of the fields that a message's kind names, right or not; no bytes, if the update that it says has none.
func lay(m api.Message) string {
	if u, ok := Update(m); ok {
		b, _ := update.Write(u)
		return b
	}
	w := cursor.New()
	w.U8(uint8(m.Kind))
	w.I64(m.Index)
	switch m.Kind {
	case api.MsgCommit:
		w.Hash(m.Hash)
	case api.MsgRevoke:
		w.Hash(m.Secret)
		w.Hash(m.Hash)
	case api.MsgHello:
		w.I64(m.Next)
		w.Hash(m.Secret)
	}
	b, _ := w.Out()
	return b
}

// reader knows which fields a message has; what is read of each the embedded one tells.
type reader struct {
	*cursor.Reader
}

// message reads a message that says no update; false: its kind is none of these. Whether all was there is the reader's to tell.
func (r reader) message() (api.Message, bool) {
	m := api.Message{Kind: int(r.U8())}
	m.Index = r.I64()
	switch m.Kind {
	case api.MsgCommit:
		m.Hash = r.Hash()
	case api.MsgRevoke:
		m.Secret = r.Hash()
		m.Hash = r.Hash()
	case api.MsgHello:
		m.Next = r.I64()
		m.Secret = r.Hash()
	case api.MsgError:
		// Its code is the index, and that is all.
	default:
		return api.Message{}, false
	}
	return m, true
}

// isIndex tells whether a number is one that a message may have.
func isIndex(n int64) bool { return 0 <= n && n <= api.MaxIndex }
