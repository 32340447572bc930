package record

import (
	"escrow/api"
	"escrow/cursor"
	"escrow/shelf"
	"escrow/update"
)

// change is what a record says; each kind has a type of its own, with the fields that the kind names.
type change interface {
	valid() bool
	// lay lays the bytes behind the kind's; the change is valid.
	lay(w *cursor.Writer)
	// apply makes the change in a state, whose lists are its own; false: it can't stand there, and the state is of no use any more.
	apply(s *api.State) bool
}

// of is what a record says; false: the record isn't valid.
func of(r api.Record) (change, bool) {
	var c change
	switch r.Kind {
	case api.RecOurs:
		c, r.Update = ours{r.Update}, api.Update{}
	case api.RecSigned:
		c, r.Index, r.Counts = signed{r.Index, r.Counts}, 0, api.Counts{}
	case api.RecCame:
		c, r.Index, r.Updates, r.Sig = came{r.Index, r.Updates, r.Sig}, 0, nil, api.Hash{}
	case api.RecRevoked:
		c, r.Index, r.Secret, r.Point = revoked{r.Index, r.Secret, r.Point}, 0, api.Hash{}, api.Hash{}
	case api.RecFailed:
		c, r.Code = failed{r.Code}, 0
	case api.RecClosed:
		c, r.Index = closed{r.Index}, 0
	default:
		return nil, false
	}
	// What the kind names is taken out by now: whatever is left it doesn't name.
	return c, bare(r) && c.valid()
}

// bare tells whether a record says nothing but its kind.
func bare(r api.Record) bool {
	none := api.Hash{}
	return r.Update == api.Update{} && len(r.Updates) == 0 && r.Index == 0 && r.Counts == api.Counts{} &&
		r.Sig == none && r.Secret == none && r.Point == none && r.Code == 0
}

// isIndex tells whether a number is one that a commitment may have.
func isIndex(n int64) bool { return 0 <= n && n <= api.MaxIndex }

// isCount tells whether a list of updates may be so long.
func isCount(n int) bool { return 0 <= n && n <= api.MaxUpdates }

// copied is a state that shares no list with another.
func copied(s api.State) api.State {
	s.Ours = append([]api.Update(nil), s.Ours...)
	s.Peers = append([]api.Update(nil), s.Peers...)
	s.Shelf = append([]api.Slot(nil), s.Shelf...)
	return s
}

// ours: I propose an update.
type ours struct {
	update api.Update
}

func (c ours) valid() bool { return update.Valid(c.update) }

func (c ours) lay(w *cursor.Writer) { layUpdate(w, c.update) }

func (c ours) apply(s *api.State) bool {
	if update.Next(s.Ours, s.Peers, c.update) != api.OK {
		return false
	}
	s.Ours = append(s.Ours, c.update)
	return true
}

// signed: I sign the peer's next commitment.
type signed struct {
	index  int64
	counts api.Counts
}

func (c signed) valid() bool {
	return isIndex(c.index) && isCount(c.counts.Ours) && isCount(c.counts.Peers)
}

func (c signed) lay(w *cursor.Writer) {
	w.I64(c.index)
	w.U16(uint16(c.counts.Ours))
	w.U16(uint16(c.counts.Peers))
}

func (c signed) apply(s *api.State) bool {
	// That a sum of any state's may wrap shows nowhere, here and below: what it wraps to is no index.
	if s.Remote != s.Acked || c.index != s.Remote+1 {
		return false
	}
	if c.counts.Peers != s.At.Peers || c.counts.Ours < s.Signed.Ours || c.counts.Ours > len(s.Ours) {
		return false
	}
	s.Remote = c.index
	s.Signed = c.counts
	s.Behind = true
	return true
}

// came: the peer signs my next commitment, which holds these more of its updates.
type came struct {
	index   int64
	updates []api.Update
	sig     api.Hash
}

func (c came) valid() bool {
	if !isIndex(c.index) || len(c.updates) > api.MaxHeard {
		return false
	}
	for _, u := range c.updates {
		if !update.Valid(u) {
			return false
		}
	}
	return true
}

func (c came) lay(w *cursor.Writer) {
	w.I64(c.index)
	w.U16(uint16(len(c.updates)))
	for _, u := range c.updates {
		layUpdate(w, u)
	}
	w.Hash(c.sig)
}

func (c came) apply(s *api.State) bool {
	if c.index != s.Local+1 || s.At.Peers < 0 || s.At.Peers > len(s.Peers) {
		return false
	}
	peers := s.Peers[:s.At.Peers]
	for _, u := range c.updates {
		if update.Next(peers, s.Ours, u) != api.OK {
			return false
		}
		peers = append(peers, u)
	}
	s.Peers = peers
	s.Local = c.index
	s.Sig = c.sig
	s.At = api.Counts{Ours: s.Held.Ours, Peers: len(peers)}
	s.Behind = false
	return true
}

// revoked: the peer tells the secret of the commitment ahead of the one that I signed last.
type revoked struct {
	index         int64
	secret, point api.Hash
}

func (c revoked) valid() bool { return isIndex(c.index) }

func (c revoked) lay(w *cursor.Writer) {
	w.I64(c.index)
	w.Hash(c.secret)
	w.Hash(c.point)
}

func (c revoked) apply(s *api.State) bool {
	if s.Remote != s.Acked+1 || c.index != s.Acked {
		return false
	}
	slots, errno := shelf.Put(s.Shelf, c.index, c.secret)
	if errno != api.OK {
		return false
	}
	s.Shelf = slots
	s.Acked++
	s.Held = s.Signed
	s.Points = [2]api.Hash{s.Points[1], c.point}
	return true
}

// failed: the channel has failed, and why.
type failed struct {
	code int
}

func (c failed) valid() bool { return 1 <= c.code && c.code <= 65535 }

func (c failed) lay(w *cursor.Writer) { w.U16(uint16(c.code)) }

func (c failed) apply(s *api.State) bool {
	// Why it failed first is what stays.
	if s.Failed == 0 {
		s.Failed = c.code
	}
	return true
}

// closed: I broadcast my commitment.
type closed struct {
	index int64
}

func (c closed) valid() bool { return isIndex(c.index) }

func (c closed) lay(w *cursor.Writer) { w.I64(c.index) }

func (c closed) apply(s *api.State) bool {
	if c.index != s.Local {
		return false
	}
	s.Closed = c.index
	return true
}
