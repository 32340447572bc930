package dance

import (
	"crypto/hmac"
	"crypto/sha256"
	"encoding/binary"
	"math/big"
	"slices"
	"strings"

	"escrow/api"
	"escrow/shelf"
	"escrow/update"
)

// The chapter, said once more and otherwise: amounts in big numbers, texts laid byte by byte, sums and seals by the library.

const most = 1152921504606846976

func sum(h api.Hash) api.Hash { return sha256.Sum256(h[:]) }

func modelSecret(seed api.Hash, n int64) api.Hash {
	place := uint64(281474976710655 - n)
	for b := 47; b >= 0; b-- {
		if place&(1<<b) != 0 {
			seed[b/8] ^= 1 << (b % 8)
			seed = sum(seed)
		}
	}
	return seed
}

func modelPoint(seed api.Hash, n int64) api.Hash { return sum(modelSecret(seed, n)) }

func modelSeal(key api.Hash, text string) api.Hash {
	m := hmac.New(sha256.New, key[:])
	m.Write([]byte(text))
	return api.Hash(m.Sum(nil))
}

// fate is the kind of the first removal of an ID, 0 where there is none.
func fate(l []api.Update, id int64) int {
	i := slices.IndexFunc(l, func(u api.Update) bool { return u.Kind != api.Add && u.ID == id })
	if i < 0 {
		return 0
	}
	return l[i].Kind
}

func addsOf(l []api.Update) []api.Update {
	return slices.DeleteFunc(slices.Clone(l), func(u api.Update) bool { return u.Kind != api.Add })
}

// openOf is the adds of a list that another one doesn't remove.
func openOf(mine, others []api.Update) []api.Update {
	return slices.DeleteFunc(addsOf(mine), func(u api.Update) bool { return fate(others, u.ID) != 0 })
}

// turned is a state with its lists, bases and counts as the peer has them: what is said of the peer is said of me there.
func turned(s api.State) api.State {
	s.BaseOurs, s.BasePeers = s.BasePeers, s.BaseOurs
	s.Ours, s.Peers = s.Peers, s.Ours
	for _, c := range []*api.Counts{&s.At, &s.Signed, &s.Held} {
		c.Ours, c.Peers = c.Peers, c.Ours
	}
	return s
}

func modelFixed(s api.State) api.Counts {
	fixed := s.At
	if s.Held.Ours < fixed.Ours {
		fixed.Ours = s.Held.Ours
	}
	if s.Held.Peers < fixed.Peers {
		fixed.Peers = s.Held.Peers
	}
	return fixed
}

func modelSpendable(s api.State) int64 {
	fixed := modelFixed(s)
	left := big.NewInt(s.BaseOurs)
	for _, u := range addsOf(s.Ours) {
		left.Sub(left, big.NewInt(u.Amount))
		if fate(s.Peers[:fixed.Peers], u.ID) == api.Fail {
			left.Add(left, big.NewInt(u.Amount))
		}
	}
	for _, u := range addsOf(s.Peers) {
		if fate(s.Ours[:fixed.Ours], u.ID) == api.Fulfill {
			left.Add(left, big.NewInt(u.Amount))
		}
	}
	switch {
	case left.Sign() < 0:
		return 0
	case left.Cmp(big.NewInt(most)) > 0:
		return most
	}
	return left.Int64()
}

// view is what a commitment with counts says, seen from me.
type view struct {
	ours, peers         int64
	openOurs, openPeers []api.Update
}

// fold is the view of counts; false where a count is none of its list's, or a balance is below 0.
func fold(s api.State, c api.Counts) (view, bool) {
	if c.Ours < 0 || c.Ours > len(s.Ours) || c.Peers < 0 || c.Peers > len(s.Peers) {
		return view{}, false
	}
	a, b := s.Ours[:c.Ours], s.Peers[:c.Peers]
	ours, peers := big.NewInt(s.BaseOurs), big.NewInt(s.BasePeers)
	move := func(from, to *big.Int, adds, removals []api.Update) {
		for _, u := range addsOf(adds) {
			m := big.NewInt(u.Amount)
			switch fate(removals, u.ID) {
			case 0:
				from.Sub(from, m)
			case api.Fulfill:
				from.Sub(from, m)
				to.Add(to, m)
			}
		}
	}
	move(ours, peers, a, b)
	move(peers, ours, b, a)
	if ours.Sign() < 0 || peers.Sign() < 0 {
		return view{}, false
	}
	return view{ours.Int64(), peers.Int64(), openOf(a, b), openOf(b, a)}, true
}

// all is the balances and the open amounts together.
func (v view) all() int64 {
	n := v.ours + v.peers
	for _, u := range append(slices.Clone(v.openOurs), v.openPeers...) {
		n += u.Amount
	}
	return n
}

// text is a commitment's bytes, the view being its owner's.
func (v view) text(owner int, index int64, point api.Hash) string {
	b := binary.BigEndian.AppendUint64([]byte{byte(owner)}, uint64(index))
	b = append(b, point[:]...)
	b = binary.BigEndian.AppendUint64(b, uint64(v.ours))
	b = binary.BigEndian.AppendUint64(b, uint64(v.peers))
	b = binary.BigEndian.AppendUint16(b, uint16(len(v.openOurs)+len(v.openPeers)))
	lay := func(l []api.Update, mark byte) {
		for _, u := range l {
			b = binary.BigEndian.AppendUint64(append(b, mark), uint64(u.ID))
			b = append(binary.BigEndian.AppendUint64(b, uint64(u.Amount)), u.Hash[:]...)
		}
	}
	lay(v.openOurs, 1)
	lay(v.openPeers, 0)
	return string(b)
}

// ownModel is the text of my commitment with an index and counts.
func ownModel(c api.Config, s api.State, n int64, counts api.Counts) (string, bool) {
	v, ok := fold(s, counts)
	return v.text(s.Side, n, modelPoint(c.Seed, n)), ok
}

// signedModel is the text of the peer's commitment R with Signed.
func signedModel(s api.State) (string, bool) {
	v, ok := fold(s, s.Signed)
	return view{v.peers, v.ours, v.openPeers, v.openOurs}.text(1-s.Side, s.Remote, s.Points[s.Remote-s.Acked]), ok
}

func isDead(s api.State) bool { return !(s.Failed == 0 && s.Closed == -1) }

// noRoom is Offer's ErrFull.
func noRoom(s api.State) bool {
	return len(s.Ours) >= 2048 || len(s.Ours) >= s.Held.Ours+512
}

func modelOffer(s api.State, amount int64, h api.Hash) (api.Record, api.Errno) {
	if isDead(s) {
		return api.Record{}, 220
	}
	if amount < 1 || amount > most {
		return api.Record{}, 80
	}
	if noRoom(s) {
		return api.Record{}, 6
	}
	if len(openOf(s.Ours, s.Peers[:modelFixed(s).Peers])) >= 483 {
		return api.Record{}, 131
	}
	if amount > modelSpendable(s) {
		return api.Record{}, 130
	}
	id := int64(len(addsOf(s.Ours)))
	return api.Record{Kind: 1, Update: api.Update{Kind: 1, ID: id, Amount: amount, Hash: h}}, 0
}

// modelRemove is Settle's and Refuse's; faulty is what they alone ask of the add.
func modelRemove(s api.State, u api.Update, faulty func(add api.Update) bool) (api.Record, api.Errno) {
	if isDead(s) {
		return api.Record{}, 220
	}
	among := s.Peers[:modelFixed(s).Peers]
	i := slices.IndexFunc(among, func(v api.Update) bool { return v.Kind == api.Add && v.ID == u.ID })
	if i < 0 || fate(s.Ours, u.ID) != 0 || faulty(among[i]) {
		return api.Record{}, 120
	}
	if noRoom(s) {
		return api.Record{}, 6
	}
	return api.Record{Kind: 1, Update: u}, 0
}

func modelSettle(s api.State, id int64, p api.Hash) (api.Record, api.Errno) {
	return modelRemove(s, api.Update{Kind: 2, ID: id, Hash: p}, func(add api.Update) bool { return add.Hash != sum(p) })
}

func modelRefuse(s api.State, id int64, note string) (api.Record, api.Errno) {
	return modelRemove(s, api.Update{Kind: 3, ID: id, Note: note}, func(api.Update) bool { return len(note) > 64 })
}

func modelSign(s api.State) (api.Record, api.Errno) {
	if isDead(s) {
		return api.Record{}, 220
	}
	if s.Remote != s.Acked || len(s.Ours) == s.Signed.Ours && s.At.Peers == s.Signed.Peers {
		return api.Record{}, 8
	}
	if s.Remote > 281474976710653 {
		return api.Record{}, 90
	}
	return api.Record{Kind: 2, Index: s.Remote + 1, Counts: api.Counts{Ours: len(s.Ours), Peers: s.At.Peers}}, 0
}

func modelHeard(s api.State, u api.Update) api.Errno {
	if isDead(s) {
		return 220
	}
	if len(s.Peers) >= s.At.Peers+512 {
		return 131
	}
	if !update.Valid(u) || update.Next(s.Peers, s.Ours, u) != 0 {
		return 120
	}
	irrevocable := s.Ours[:modelFixed(s).Ours]
	if u.Kind == api.Add {
		if len(openOf(s.Peers, irrevocable)) >= 483 {
			return 131
		}
		if u.Amount > modelSpendable(turned(s)) {
			return 130
		}
		return 0
	}
	if !slices.ContainsFunc(irrevocable, func(v api.Update) bool { return v.Kind == api.Add && v.ID == u.ID }) {
		return 120
	}
	return 0
}

func modelCame(c api.Config, s api.State, m api.Message) (api.Record, api.Errno) {
	if isDead(s) {
		return api.Record{}, 220
	}
	if m.Kind != 4 {
		return api.Record{}, 160
	}
	if m.Index-1 != s.Local || s.Local > 281474976710653 {
		return api.Record{}, 90
	}
	if s.Held.Ours == s.At.Ours && len(s.Peers) == s.At.Peers {
		return api.Record{}, 8
	}
	text, ok := ownModel(c, s, m.Index, api.Counts{Ours: s.Held.Ours, Peers: len(s.Peers)})
	if !ok || m.Hash != modelSeal(c.PeerKey, text) {
		return api.Record{}, 110
	}
	return api.Record{Kind: 3, Index: s.Local + 1, Updates: s.Peers[s.At.Peers:], Sig: m.Hash}, 0
}

func modelRevoked(s api.State, m api.Message) (api.Record, api.Errno) {
	if isDead(s) {
		return api.Record{}, 220
	}
	if m.Kind != 5 {
		return api.Record{}, 160
	}
	if s.Remote-1 != s.Acked || m.Index != s.Acked {
		return api.Record{}, 90
	}
	if _, e := shelf.Put(s.Shelf, s.Acked, m.Secret); e != 0 || sum(m.Secret) != s.Points[0] {
		return api.Record{}, 100
	}
	return api.Record{Kind: 4, Index: s.Acked, Secret: m.Secret, Point: m.Hash}, 0
}

// grows tells whether Next takes two lists one by one, in some order of the two.
func grows(ours, peers []api.Update) bool {
	i, j := 0, 0
	for i < len(ours) || j < len(peers) {
		switch {
		case i < len(ours) && update.Next(ours[:i], peers[:j], ours[i]) == 0:
			i++
		case j < len(peers) && update.Next(peers[:j], ours[:i], peers[j]) == 0:
			j++
		default:
			return false
		}
	}
	return true
}

// unsound tells what keeps a state from being sound; "" of a sound one.
func unsound(s api.State) string {
	_, at := fold(s, s.At)
	_, signed := fold(s, s.Signed)
	_, held := fold(s, s.Held)
	switch {
	case s.Side != 0 && s.Side != 1:
		return "Side"
	case s.Capacity < 1 || s.Capacity > most || s.BaseOurs < 0 || s.BasePeers < 0 || s.BaseOurs > s.Capacity || s.Capacity-s.BaseOurs != s.BasePeers:
		return "the capacity"
	case !grows(s.Ours, s.Peers):
		return "the lists"
	case s.Local < 0 || s.Local > api.MaxIndex || s.Acked < 0 || s.Remote < s.Acked || s.Remote > s.Acked+1 || s.Remote > api.MaxIndex:
		return "the indexes"
	case !at || !signed || !held:
		return "the counts, or funds"
	case s.Held.Ours > s.Signed.Ours || s.Held.Peers > s.Signed.Peers || s.Remote == s.Acked && s.Held != s.Signed:
		return "Held and Signed"
	case s.Signed.Peers > s.At.Peers || s.Held.Ours < s.At.Ours:
		return "At"
	}
	return ""
}

// apply is what a record that dance answered makes of a state, as chapter 17 says it.
func apply(s api.State, r api.Record) api.State {
	switch r.Kind {
	case api.RecOurs:
		s.Ours = append(slices.Clone(s.Ours), r.Update)
	case api.RecSigned:
		s.Remote, s.Signed, s.Behind = r.Index, r.Counts, true
	case api.RecCame:
		s.Peers = append(slices.Clone(s.Peers[:s.At.Peers]), r.Updates...)
		s.Local, s.Sig, s.Behind = r.Index, r.Sig, false
		s.At = api.Counts{Ours: s.Held.Ours, Peers: len(s.Peers)}
	case api.RecRevoked:
		s.Shelf, _ = shelf.Put(s.Shelf, r.Index, r.Secret)
		s.Acked++
		s.Held = s.Signed
		s.Points = [2]api.Hash{s.Points[1], r.Point}
	}
	return s
}

// heard is a state with an update more behind Peers.
func heard(s api.State, u api.Update) api.State {
	s.Peers = append(slices.Clone(s.Peers), u)
	return s
}

// What the tests ask with.

func full32(b byte) api.Hash { return api.Hash([]byte(strings.Repeat(string([]byte{b}), 32))) }

func seedOf(side int) api.Hash { return full32(byte(1 + side)) }

func keyOf(side int) api.Hash { return full32(byte(3 + side)) }

// configOf is a side of a channel in which side 0 begins with first.
func configOf(side int, capacity, first int64) api.Config {
	other := seedOf(1 - side)
	points := [2]api.Hash{modelPoint(other, 0), modelPoint(other, 1)}
	return api.Config{Side: side, Capacity: capacity, Ours: []int64{first, capacity - first}[side], Seed: seedOf(side), Key: keyOf(side), PeerKey: keyOf(1 - side), Points: points, Segment: 4096}
}

// preimage is that of the add of a side with an ID.
func preimage(side int, id int64) api.Hash {
	return api.Hash{9, byte(side), byte(id), byte(id >> 8)}
}

func add(side int, id, amount int64) api.Update {
	return api.Update{Kind: api.Add, ID: id, Amount: amount, Hash: sum(preimage(side, id))}
}

// fulfill is of the other side's add.
func fulfill(side int, id int64) api.Update {
	return api.Update{Kind: api.Fulfill, ID: id, Hash: preimage(1-side, id)}
}

func fail(id int64, note string) api.Update {
	return api.Update{Kind: api.Fail, ID: id, Note: note}
}

// ones is adds of 1, with the IDs from one up to below another.
func ones(side int, from, to int64) []api.Update {
	var l []api.Update
	for id := from; id < to; id++ {
		l = append(l, add(side, id, 1))
	}
	return l
}

func fails(from, to int64) []api.Update {
	var l []api.Update
	for id := from; id < to; id++ {
		l = append(l, fail(id, ""))
	}
	return l
}

func counts(ours, peers int) api.Counts { return api.Counts{Ours: ours, Peers: peers} }

// settled is a state with such counts in all that count.
func settled(s api.State, c api.Counts) api.State {
	s.At, s.Signed, s.Held = c, c, c
	return s
}

func sameRecord(r, q api.Record) bool {
	alike := slices.Equal(r.Updates, q.Updates)
	return alike && r.Kind == q.Kind && r.Update == q.Update && r.Index == q.Index && r.Counts == q.Counts && r.Sig == q.Sig && r.Secret == q.Secret && r.Point == q.Point && r.Code == q.Code
}

func sameState(s, o api.State) bool {
	if !slices.Equal(s.Ours, o.Ours) || !slices.Equal(s.Peers, o.Peers) || !slices.Equal(s.Shelf, o.Shelf) {
		return false
	}
	numbers := func(s api.State) [9]int64 {
		return [9]int64{int64(s.Side), s.Capacity, s.BaseOurs, s.BasePeers, s.Local, s.Remote, s.Acked, int64(s.Failed), s.Closed}
	}
	return numbers(s) == numbers(o) && s.At == o.At && s.Signed == o.Signed && s.Held == o.Held && s.Behind == o.Behind && s.Points == o.Points && s.Sig == o.Sig
}
