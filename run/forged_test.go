package run

import (
	"math/rand"
	"testing"

	"escrow/api"
	"escrow/dance"
	"escrow/disk"
	"escrow/frame"
	"escrow/node"
	"escrow/record"
)

// forged is fates that lay a right frame where the power went, with a batch that nobody made; none, if there is no place for one.
func (m *model) forged(d *disk.Disk, s api.State) []api.Fate {
	c := d.Copy()
	c.Crash(nil)
	c.On()
	text, e := c.Read("log.0", 0, api.MaxFile)
	if e != api.OK {
		text = ""
	}
	first := int64(0)
	for i := 4; i < 12 && len(text) >= 12; i++ {
		first = first<<8 | int64(text[i])
	}
	payloads, size, _ := frame.Scan(text, first)
	batch := m.batch(dance.Cut(s))
	right, e := frame.Frame(first+int64(len(payloads)), batch)
	if e != api.OK || batch == "" {
		return nil
	}
	var l []api.Fate
	for i := 0; i < len(right); i += api.Sector {
		l = append(l, api.Fate{File: "log.0", Sector: (size + i) / api.Sector, Kind: api.FateReplace, Bytes: right[i : i+api.Sector]})
	}
	return l
}

// batch: records by chance, each of which can stand where it does.
func (m *model) batch(s api.State) string {
	all := ""
	for range 1 + m.Intn([]int{2, 4, 20}[m.Intn(3)]) {
		r := m.record(s)
		next, e := record.Apply(s, r)
		if b, f := record.Write(r); e == api.OK && f == api.OK {
			s, all = next, all+b
		}
	}
	return all
}

func (m *model) record(s api.State) api.Record {
	update := api.Update{Kind: 1 + m.Intn(3), ID: int64(m.Intn(4))}
	switch update.Kind {
	case api.Add:
		update.Amount, update.Hash = []int64{1, 100, 5000, api.MaxAmount}[m.Intn(4)], named("forged", 0)
		for _, u := range s.Ours {
			if u.Kind == api.Add && m.Intn(8) > 0 {
				update.ID = u.ID + 1
			}
		}
	case api.Fulfill:
		update.Hash = preimage(m.Intn(2), update.ID)
	}
	switch m.Intn(6) {
	case 0:
		return api.Record{Kind: api.RecSigned, Index: s.Remote + 1, Counts: api.Counts{Ours: len(s.Ours), Peers: s.At.Peers}}
	case 1:
		r := api.Record{Kind: api.RecCame, Index: s.Local + 1, Sig: named("forged", 1)}
		if m.Intn(2) == 0 {
			r.Updates = []api.Update{update}
		}
		return r
	case 2:
		return api.Record{Kind: api.RecRevoked, Index: s.Acked, Secret: secretOf(1-s.Side, s.Acked), Point: sum(secretOf(1-s.Side, s.Acked+2))}
	case 3:
		if m.Intn(8) == 0 {
			return api.Record{Kind: api.RecFailed, Code: 1 + m.Intn(65535)}
		}
		if m.Intn(8) == 0 {
			return api.Record{Kind: api.RecClosed, Index: s.Local}
		}
	}
	return api.Record{Kind: api.RecOurs, Update: update}
}

// P26.1: whatever stands on a disk, by fates that lay right frames that nobody made: all is told as said, and nothing panics.
func TestForgedFrames(t *testing.T) {
	t.Parallel()
	seen := map[string]int{}
	for seed := range int64(400) {
		r := rand.New(rand.NewSource(9000 + seed))
		world := theWorld()
		world.Disk, world.Segment = 1<<20, api.MaxFile
		m := newModel(t, r, world, seen)
		var up [2]api.State
		for range 60 {
			if m.Intn(8) == 0 {
				m.step(m.Intn(2), "fall 2", node.Step{Kind: node.Fall, N: 2})
			}
			m.lively()
			for side := range 2 {
				n := m.pair.Node(side)
				if n.Up() {
					up[side] = n.State()
					m.notices(n)
				} else if fates := m.forged(n.Disk(), up[side]); fates != nil && m.Intn(4) > 0 {
					m.crashWith(side, 0, fates)
				}
			}
		}
		m.quiet(1000)
		m.question("ledger", 0)
		m.question("ledger", 1)
		if len(m.script()) > api.MaxScript {
			continue
		}
		plays(t, "P26.1", m.script(), m.lines())
		if t.Failed() {
			t.Fatalf("in the script of seed %d", seed)
		}
	}
	for _, want := range []string{"deliver: err 8", "deliver: err 90", "deliver: err 120", "deliver: err 130", "failed", "closed", "an error is sent"} {
		if seen[want] < 3 {
			t.Errorf("the scripts had %q %d times", want, seen[want])
		}
	}
}

// notices what has become of a node, and what was told last.
func (m *model) notices(n *node.Node) {
	s := n.State()
	if s.Failed != 0 {
		m.seen["failed"]++
	}
	if s.Closed >= 0 {
		m.seen["closed"]++
	}
	last := m.told[len(m.told)-1]
	if len(last) == 2 && last[0][:3] == "err" {
		m.seen["an error is sent"]++
	}
}
