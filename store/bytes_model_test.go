package store

import (
	"encoding/binary"
	"math/rand"
	"strings"

	"escrow/api"
)

// The chapter's table, said once more: laid and read by the library's binary numbers, a text for each row.

func wide(n int64, width int) string {
	return string(binary.BigEndian.AppendUint64(nil, uint64(n))[8-width:])
}

func modelUpdate(u api.Update) (string, bool) {
	b := wide(int64(u.Kind), 1) + wide(u.ID, 2)
	ok := 0 <= u.ID && u.ID <= 2047
	switch u.Kind {
	case 1:
		return b + wide(u.Amount, 8) + string(u.Hash[:]), ok && 1 <= u.Amount && u.Amount <= maxAmount && u.Note == ""
	case 2:
		return b + string(u.Hash[:]), ok && u.Amount == 0 && u.Note == ""
	case 3:
		return b + wide(int64(len(u.Note)), 2) + u.Note, ok && u.Amount == 0 && u.Hash == api.Hash{} && len(u.Note) <= 64
	}
	return "", false
}

func modelUpdates(l []api.Update) (string, bool) {
	var b strings.Builder
	b.WriteString(wide(int64(len(l)), 2))
	ok := len(l) <= 2048
	for _, u := range l {
		one, right := modelUpdate(u)
		b.WriteString(one)
		ok = ok && right
	}
	return b.String(), ok
}

func flag(is bool) string {
	if is {
		return "\x01"
	}
	return "\x00"
}

// modelWrite lays row by row; of what can't be written it tells false.
func modelWrite(n int64, s api.State) (string, bool) {
	ok := true
	var b strings.Builder
	number := func(n int64, width int, least, most int64) {
		ok = ok && least <= n && n <= most
		b.WriteString(wide(n, width))
	}
	number(n, 8, 0, 1152921504606846976)
	number(int64(s.Side), 1, 0, 1)
	for _, n := range []int64{s.Capacity, s.BaseOurs, s.BasePeers} {
		number(n, 8, 0, maxAmount)
	}
	for _, l := range [][]api.Update{s.Ours, s.Peers} {
		text, right := modelUpdates(l)
		b.WriteString(text)
		ok = ok && right
	}
	for _, n := range []int64{s.Local, s.Remote, s.Acked} {
		number(n, 8, 0, maxIndex)
	}
	for _, n := range []int{s.At.Ours, s.At.Peers, s.Signed.Ours, s.Signed.Peers, s.Held.Ours, s.Held.Peers} {
		number(int64(n), 2, 0, 2048)
	}
	b.WriteString(flag(s.Behind))
	for _, h := range []api.Hash{s.Points[0], s.Points[1], s.Sig} {
		b.Write(h[:])
	}
	number(int64(len(s.Shelf)), 1, 0, 49)
	for _, slot := range s.Shelf {
		b.WriteString(flag(slot.Full))
		number(slot.Index, 8, 0, maxIndex)
		b.Write(slot.Secret[:])
	}
	number(int64(s.Failed), 4, 0, 1000000)
	number(s.Closed, 8, -1, maxIndex)
	return b.String(), ok
}

// scan takes bytes from a text; short: there were too few.
type scan struct {
	rest  string
	short bool
}

func (s *scan) take(n int) string {
	if n > len(s.rest) {
		s.rest, s.short = "", true
		return strings.Repeat("\x00", min(n, 32))
	}
	b := s.rest[:n]
	s.rest = s.rest[n:]
	return b
}

func (s *scan) number(width int) int64 {
	return int64(binary.BigEndian.Uint64([]byte(strings.Repeat("\x00", 8-width) + s.take(width))))
}

func (s *scan) count() int { return int(s.number(2)) }

func (s *scan) hash() api.Hash { return api.Hash([]byte(s.take(32))) }

func (s *scan) updates() []api.Update {
	var l []api.Update
	for range s.count() {
		u := api.Update{Kind: int(s.number(1)), ID: s.number(2)}
		switch u.Kind {
		case 1:
			u.Amount, u.Hash = s.number(8), s.hash()
		case 2:
			u.Hash = s.hash()
		case 3:
			u.Note = s.take(s.count())
		}
		l = append(l, u)
		if s.short {
			break
		}
	}
	return l
}

// modelRead reads row by row; of what isn't a checkpoint's bytes it tells false.
func modelRead(b string) (int64, api.State, bool) {
	r := &scan{rest: b}
	n := r.number(8)
	s := api.State{Side: int(r.number(1)), Capacity: r.number(8), BaseOurs: r.number(8), BasePeers: r.number(8)}
	s.Ours = r.updates()
	s.Peers = r.updates()
	s.Local, s.Remote, s.Acked = r.number(8), r.number(8), r.number(8)
	for _, c := range []*api.Counts{&s.At, &s.Signed, &s.Held} {
		c.Ours, c.Peers = r.count(), r.count()
	}
	behind := r.number(1)
	odd := behind > 1
	s.Behind = behind == 1
	s.Points[0], s.Points[1], s.Sig = r.hash(), r.hash(), r.hash()
	for range int(r.number(1)) {
		full := r.number(1)
		odd = odd || full > 1
		s.Shelf = append(s.Shelf, api.Slot{Full: full == 1, Index: r.number(8), Secret: r.hash()})
	}
	s.Failed, s.Closed = int(r.number(4)), r.number(8)
	if _, ok := modelWrite(n, s); !ok || r.short || r.rest != "" || odd {
		return 0, api.State{}, false
	}
	return n, s, true
}

func hashByChance(r *rand.Rand) api.Hash {
	var h api.Hash
	if r.Intn(3) > 0 {
		r.Read(h[:])
	}
	return h
}

// upTo is a number from least to most: the ends more often than others.
func upTo(r *rand.Rand, least, most int64) int64 {
	switch r.Intn(4) {
	case 0:
		return least
	case 1:
		return most
	}
	return least + r.Int63n(most-least+1)
}

func updateByChance(r *rand.Rand) api.Update {
	u := api.Update{Kind: 1 + r.Intn(3), ID: upTo(r, 0, 2047)}
	switch u.Kind {
	case 1:
		u.Amount, u.Hash = upTo(r, 1, maxAmount), hashByChance(r)
	case 2:
		u.Hash = hashByChance(r)
	case 3:
		note := make([]byte, upTo(r, 0, 64))
		r.Read(note)
		u.Note = string(note)
	}
	return u
}

// writableByChance is a number and a state of which a checkpoint can be written: in any order, sound or not.
func writableByChance(r *rand.Rand) (int64, api.State) {
	s := api.State{
		Side: r.Intn(2), Capacity: upTo(r, 0, maxAmount), BaseOurs: upTo(r, 0, maxAmount), BasePeers: upTo(r, 0, maxAmount),
		Local: upTo(r, 0, maxIndex), Remote: upTo(r, 0, maxIndex), Acked: upTo(r, 0, maxIndex),
		Behind: r.Intn(2) == 0, Points: [2]api.Hash{hashByChance(r), hashByChance(r)}, Sig: hashByChance(r),
		Failed: int(upTo(r, 0, 1000000)), Closed: upTo(r, -1, maxIndex),
	}
	for _, c := range []*int{&s.At.Ours, &s.At.Peers, &s.Signed.Ours, &s.Signed.Peers, &s.Held.Ours, &s.Held.Peers} {
		*c = int(upTo(r, 0, 2048))
	}
	for range r.Intn(6) {
		s.Ours = append(s.Ours, updateByChance(r))
	}
	for range r.Intn(6) {
		s.Peers = append(s.Peers, updateByChance(r))
	}
	for range []int{0, 1, 2, 49}[r.Intn(4)] {
		s.Shelf = append(s.Shelf, api.Slot{Full: r.Intn(2) == 0, Index: upTo(r, 0, maxIndex), Secret: hashByChance(r)})
	}
	return upTo(r, 0, 1<<60), s
}
