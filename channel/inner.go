package channel

import (
	"slices"
	"strings"

	"escrow/api"
	"escrow/commit"
	"escrow/dance"
	"escrow/gate"
	"escrow/ledger"
	"escrow/msg"
	"escrow/seed"
)

const (
	// unclosed is the Closed of a state that isn't.
	unclosed = -1
	// maxCode is the greatest code that a record of a failure has room for.
	maxCode = 65535
)

// keep: a record is durable, and done. The store's errors.
func (c *Channel) keep(r api.Record) api.Errno { return c.Do([]api.Record{r}) }

// fail: the channel fails with a code, if it hasn't failed already; the code again, for whoever answers it.
func (c *Channel) fail(code api.Errno) api.Errno {
	if c.State().Failed != 0 {
		return code
	}
	if c.keep(api.Record{Kind: api.RecFailed, Code: int(code)}) != api.OK {
		c.failed = int(code)
	}
	return code
}

// propose: what dance answered of an update of mine is durable; its message.
func (c *Channel) propose(r api.Record, e api.Errno) ([]api.Message, api.Errno) {
	if e == api.OK {
		e = c.keep(r)
	}
	if e != api.OK {
		return nil, e
	}
	return []api.Message{msg.Of(r.Update)}, api.OK
}

// hear: an update of the peer.
func (c *Channel) hear(s api.State, m api.Message) api.Errno {
	u, _ := msg.Update(m)
	if e := dance.Heard(s, u); e != api.OK {
		return c.fail(e)
	}
	// It stays here, and the message is the caller's.
	u.Note = strings.Clone(u.Note)
	c.heard = append(c.heard, u)
	return api.OK
}

// advance: my next commitment; the revocation of the one ahead of it.
func (c *Channel) advance(s api.State, m api.Message) ([]api.Message, api.Errno) {
	r, e := dance.Came(c.config, s, m)
	if e != api.OK {
		return nil, c.fail(e)
	}
	if e := c.keep(r); e != api.OK {
		return nil, e
	}
	c.heard = nil
	// Only what is durable in the mark may be told: a crash behind the message must not make the old commitment count again.
	if e := c.Raise(s.Local); e != api.OK {
		return nil, e
	}
	return []api.Message{dance.Reveal(c.config, s.Local)}, api.OK
}

// release: the peer has revoked its commitment.
func (c *Channel) release(s api.State, m api.Message) api.Errno {
	r, e := dance.Revoked(s, m)
	if e != api.OK {
		return c.fail(e)
	}
	return c.keep(r)
}

// end: the channel is closed, from now on or already; the text of my commitment.
func (c *Channel) end(s api.State) (string, api.Errno) {
	if s.Failed == int(api.ErrLost) {
		return "", api.ErrLost
	}
	// First, so that nothing is closed that can't be told; but whatever came from Start has a text.
	text, e := ownText(c.config, s)
	if e != api.OK || s.Closed == s.Local {
		return text, e
	}
	if !gate.Of(c.Mark(), s).MayBroadcast(s.Local) {
		return "", api.ErrGate
	}
	return text, c.keep(api.Record{Kind: api.RecClosed, Index: s.Local})
}

// ownText: what my commitment says that counts.
func ownText(c api.Config, s api.State) (string, api.Errno) {
	l, e := ledger.Fold(s.BaseOurs, s.BasePeers, s.Ours, s.Peers, s.At)
	if e != api.OK {
		return "", e
	}
	secret, e := seed.Secret(c.Seed, s.Local)
	if e != api.OK {
		return "", e
	}
	return commit.Text(s.Side, s.Local, seed.Point(secret), l)
}

// cause: the code of why the peer failed, by its message.
func cause(m api.Message) api.Errno {
	if m.Index < 1 || m.Index > maxCode {
		return api.ErrMessage
	}
	return api.Errno(m.Index)
}

// dead: it has failed or is closed.
func dead(s api.State) bool { return s.Failed != 0 || s.Closed != unclosed }

// covered: how many of the peer's updates my commitment holds. What stands on a disk may say more than there are.
func covered(s api.State) int { return min(s.At.Peers, len(s.Peers)) }

// uncovered: the peer's updates that my commitment doesn't hold; new memory.
func uncovered(s api.State) []api.Update { return slices.Clone(s.Peers[covered(s):]) }
