package channel

import (
	"fmt"
	"strings"
	"testing"

	"escrow/api"
	"escrow/dance"
	"escrow/disk"
	"escrow/seal"
)

func TestExample1(t *testing.T) {
	const what = "P22.1: example 1"
	p := two(t)
	a, b := p.c[0], p.c[1]
	h := sum(preimage(0, 0))
	add := api.Message{Kind: api.MsgAdd, ID: 0, Amount: 600, Hash: h}
	sends(t, what, add)(a.Offer(600, h))
	sends(t, what)(b.Take(add))
	commit := p.one(a.Sign())
	if commit.Kind != api.MsgCommit || commit.Index != 1 || commit != dance.Again(config(0), a.State()) {
		t.Errorf("%s: Sign sends %+v", what, commit)
	}
	revoke := api.Message{Kind: api.MsgRevoke, Index: 0, Secret: secretOf(1, 0), Hash: sum(secretOf(1, 2))}
	sends(t, what, revoke)(b.Take(commit))
	sends(t, what)(a.Take(revoke))
	if s := a.State(); s.Acked != 1 || s.Remote != 1 || s.Local != 0 {
		t.Errorf("%s: a is %s", what, shown(s))
	}
	marks(t, what, b, 0)
	marks(t, what, a, -1)
}

func TestExample2(t *testing.T) {
	const what = "P22.3: example 2"
	d := made(t, 1<<20)
	a := opens(t, what, d, 0)
	for range 3 {
		d.Arm(1, disk.Syncs)
		refuses(t, what, api.ErrDisk)(a.Offer(600, none))
		tells(t, what, a, start(t, 0))
		d.Arm(1, disk.Writes)
		refuses(t, what, api.ErrDisk)(a.Offer(600, none))
		tells(t, what, a, start(t, 0))
	}
	tells(t, what, opens(t, what, d.Copy(), 0), start(t, 0))
	sends(t, what, api.Message{Kind: api.MsgAdd, ID: 0, Amount: 600})(a.Offer(600, none))
	sends(t, what, api.Message{Kind: api.MsgAdd, ID: 1, Amount: 5})(a.Offer(5, none))
}

func TestExample3(t *testing.T) {
	const what = "P22.4: example 3"
	for n := 3; n <= 4; n++ {
		for _, kind := range []int{api.FateLost, api.FateKept} {
			p := two(t)
			p.offer(0, 600)
			commit := p.one(p.c[0].Sign())
			p.d[1].Fall(n)
			refuses(t, what, api.ErrOff)(p.c[1].Take(commit))
			crash(p.d[1], api.Fate{File: "mark", Sector: 1, Kind: kind})
			b := opens(t, what, p.d[1], 1)
			if s := b.State(); s.Local != 1 || s.At != (api.Counts{Peers: 1}) || s.Sig != commit.Hash {
				t.Errorf("%s: b is %s", what, shown(s))
			}
			marks(t, what, b, 0)
			if hello := b.Hello(); hello != (api.Message{Kind: api.MsgHello, Index: 2}) {
				t.Errorf("%s: b says %+v", what, hello)
			}
			p.c[0].Cut()
			hello := p.c[0].Hello()
			if hello != (api.Message{Kind: api.MsgHello, Index: 1}) {
				t.Errorf("%s: a says %+v", what, hello)
			}
			revoke := dance.Reveal(config(1), 0)
			sends(t, what, revoke)(b.Answer(hello))
			sends(t, what)(p.c[0].Answer(b.Hello()))
			sends(t, what)(p.c[0].Take(revoke))
		}
	}
}

func TestExample4(t *testing.T) {
	const what = "P22.1: example 4"
	p := two(t)
	p.offer(0, 600)
	p.sign(0)
	a, b := p.c[0], p.c[1]
	p.offer(0, 5)
	commit := p.one(a.Sign())
	if index, _, sig, e := a.Close(); index != 0 || sig != none || e != api.OK {
		t.Errorf("%s: a closes with %d, %x, %d", what, index, sig, e)
	}
	refuses(t, what, api.ErrDead)(a.Offer(1, none))
	commit.Hash[31] ^= 1
	refuses(t, what, api.ErrSeal)(b.Take(commit))
	hasFailed(t, what, b, int(api.ErrSeal))
	if index, _, _, e := b.Close(); index != 1 || e != api.OK {
		t.Errorf("%s: b closes with %d, %d", what, index, e)
	}
}

// Offer's errors, in their order: what dance refuses isn't asked of the disk.
func TestOfferRefused(t *testing.T) {
	const what = "P22.1: Offer"
	d := made(t, 300)
	a := opens(t, what, d, 0)
	unasked(t, what, d, func() {
		d.Arm(1, disk.Any)
		for _, amount := range []int64{0, -1, api.MaxAmount + 1} {
			refuses(t, what, api.ErrAmount)(a.Offer(amount, none))
		}
		refuses(t, what, api.ErrFunds)(a.Offer(701, none))
	})
	refuses(t, what, api.ErrDisk)(a.Offer(700, none))
	for id := range int64(2) {
		sends(t, what, api.Message{Kind: api.MsgAdd, ID: id, Amount: 300})(a.Offer(300, none))
	}
	before := a.State()
	unasked(t, what, d, func() { refuses(t, what, api.ErrSpace)(a.Offer(1, none)) })
	tells(t, "P22.3: "+what, a, before)
	refuses(t, what, api.ErrFunds)(a.Offer(101, none))
	d.Fall(1)
	is(t, "other", d.Write("mark", 128, ""), api.ErrOff)
	refuses(t, what, api.ErrOff)(a.Offer(1, none))
	tells(t, "P22.3: "+what, a, before)
	refuses(t, what, api.ErrLog)(a.Offer(1, none))
}

func TestSettleAndRefuse(t *testing.T) {
	const what = "P22.1: Settle, Refuse"
	p := two(t)
	for range 4 {
		p.offer(0, 50)
	}
	b := p.c[1]
	p.sign(0)
	refuses(t, what+": not irrevocable", api.ErrUpdate)(b.Settle(0, preimage(0, 0)))
	refuses(t, what+": not irrevocable", api.ErrUpdate)(b.Refuse(0, ""))
	p.sign(1)
	before := b.State()
	unasked(t, what, p.d[1], func() {
		p.d[1].Arm(1, disk.Any)
		refuses(t, what, api.ErrUpdate)(b.Settle(0, preimage(0, 1)))
		refuses(t, what, api.ErrUpdate)(b.Settle(4, preimage(0, 4)))
		refuses(t, what, api.ErrUpdate)(b.Refuse(-1, ""))
		refuses(t, what, api.ErrUpdate)(b.Refuse(1, strings.Repeat("n", 65)))
	})
	refuses(t, what, api.ErrDisk)(b.Settle(0, preimage(0, 0)))
	p.d[1].Arm(2, disk.Any)
	refuses(t, what, api.ErrDisk)(b.Refuse(1, "no"))
	tells(t, "P22.3: "+what, b, before)
	sends(t, what, api.Message{Kind: api.MsgFulfill, ID: 0, Hash: preimage(0, 0)})(b.Settle(0, preimage(0, 0)))
	sends(t, what, api.Message{Kind: api.MsgFail, ID: 1})(b.Refuse(1, ""))
	note := strings.Repeat("\xff", 64)
	sends(t, what, api.Message{Kind: api.MsgFail, ID: 2, Note: note})(b.Refuse(2, note))
	refuses(t, what+": twice", api.ErrUpdate)(b.Settle(1, preimage(0, 1)))
	want := before
	want.Ours = []api.Update{{Kind: api.Fulfill, Hash: preimage(0, 0)}, {Kind: api.Fail, ID: 1}, {Kind: api.Fail, ID: 2, Note: note}}
	tells(t, what, b, want)
	if s, _ := durable(t, what, p.d[1], 1); !sameState(s, want) {
		t.Errorf("P22.2: %s: durable is %s", what, shown(s))
	}
}

func TestSign(t *testing.T) {
	const what = "P22.1: Sign"
	p := two(t)
	a := p.c[0]
	unasked(t, what, p.d[0], func() { refuses(t, what+": nothing is new", api.ErrState)(a.Sign()) })
	p.offer(0, 600)
	before := a.State()
	for n := 1; n <= 2; n++ {
		p.d[0].Arm(n, disk.Any)
		refuses(t, what, api.ErrDisk)(a.Sign())
		tells(t, "P22.3: "+what, a, before)
	}
	m := p.one(a.Sign())
	s := a.State()
	if s.Remote != 1 || s.Signed != (api.Counts{Ours: 1}) || !s.Behind || m != dance.Again(config(0), s) || m.Index != 1 {
		t.Errorf("%s: sends %+v of %s", what, m, shown(s))
	}
	if kept, _ := durable(t, what, p.d[0], 0); !sameState(kept, s) {
		t.Errorf("P22.2: %s: durable is %s", what, shown(kept))
	}
	refuses(t, what+": the peer hasn't revoked", api.ErrState)(a.Sign())
	p.pass(0, []api.Message{m}, api.OK)
	refuses(t, what+": nothing is new", api.ErrState)(a.Sign())
}

// The peer's updates are in the state, and on no disk; Cut forgets those that no commitment of mine holds.
func TestTakeUpdates(t *testing.T) {
	const what = "P22.1: Take of updates"
	p := two(t)
	a, b := p.c[0], p.c[1]
	p.offer(0, 10)
	p.offer(0, 20)
	p.offer(0, 30)
	p.fix(0)
	before := a.State()
	l := []api.Message{
		{Kind: api.MsgFulfill, ID: 1, Hash: preimage(0, 1)},
		{Kind: api.MsgAdd, ID: 0, Amount: 300, Hash: none},
		{Kind: api.MsgFail, ID: 0, Note: "no"},
	}
	want := before
	want.Peers = []api.Update{
		{Kind: api.Fulfill, ID: 1, Hash: preimage(0, 1)},
		{Kind: api.Add, ID: 0, Amount: 300},
		{Kind: api.Fail, ID: 0, Note: "no"},
	}
	for range 2 {
		unasked(t, what, p.d[0], func() {
			p.d[0].Arm(1, disk.Any)
			for _, m := range l {
				sends(t, what)(a.Take(stray(m, strayIndex, strayNext, straySecret)))
			}
			tells(t, what, a, want)
			a.Cut()
			tells(t, what+": Cut", a, before)
			a.Cut()
			tells(t, what+": Cut twice", a, before)
		})
		p.d[0].Arm(0, disk.Any)
	}
	for _, m := range l {
		sends(t, what)(a.Take(m))
	}
	if s := opens(t, what, p.d[0].Copy(), 0).State(); !sameState(s, before) {
		t.Errorf("P22.2: %s: opened anew it is %s", what, shown(s))
	}
	p.one(b.Settle(1, preimage(0, 1)))
	p.one(b.Offer(300, none))
	p.one(b.Refuse(0, "no"))
	p.sign(1)
	a.Cut()
	if s := a.State(); len(s.Peers) != 3 || s.At.Peers != 3 {
		t.Errorf("%s: what is covered isn't cut: %s", what, shown(s))
	}
}

// failing: Take of a message answers this error, with which the channel has failed then, durably.
func failing(t *testing.T, what string, d *disk.Disk, side int, c *Channel, m api.Message, code int, answer api.Errno) {
	t.Helper()
	want := c.State()
	refuses(t, what, answer)(c.Take(m))
	hasFailed(t, what, c, code)
	want.Failed = code
	tells(t, what, c, want)
	marks(t, what, c, want.Local-1)
	again := opens(t, what, d.Copy(), side)
	hasFailed(t, what+": opened anew", again, code)
	tells(t, what+": opened anew", again, dance.Cut(want))
	refuses(t, what+": dead", api.ErrDead)(c.Take(m))
	refuses(t, what+": dead", api.ErrDead)(c.Take(api.Message{}))
	tells(t, what+": the first code stays", c, want)
}

func TestTakeOfWrongUpdates(t *testing.T) {
	for _, x := range []struct {
		m    api.Message
		want api.Errno
	}{
		{api.Message{Kind: api.MsgAdd, ID: 1, Amount: 1}, api.ErrUpdate},
		{api.Message{Kind: api.MsgAdd, ID: 2, Amount: 0}, api.ErrUpdate},
		{api.Message{Kind: api.MsgAdd, ID: 2, Amount: 1, Note: "x"}, api.ErrUpdate},
		{api.Message{Kind: api.MsgAdd, ID: 2, Amount: 681}, api.ErrFunds},
		{api.Message{Kind: api.MsgFulfill, ID: 0, Hash: preimage(0, 0)}, api.ErrUpdate},
		{api.Message{Kind: api.MsgFulfill, ID: 0, Amount: 1, Hash: preimage(1, 0)}, api.ErrUpdate},
		{api.Message{Kind: api.MsgFail, ID: 1}, api.ErrUpdate}, // not irrevocable
		{api.Message{Kind: api.MsgFail, ID: 2}, api.ErrUpdate},
		{api.Message{Kind: api.MsgFail, ID: 0, Note: strings.Repeat("n", 65)}, api.ErrUpdate},
		{api.Message{Kind: api.MsgFail, ID: 0, Hash: named("x", 1)}, api.ErrUpdate},
	} {
		p := two(t)
		p.offer(0, 10)
		p.offer(1, 10)
		p.fix(0)
		p.sign(0)
		p.offer(0, 10)
		p.offer(1, 10)
		failing(t, fmt.Sprintf("P22.1: Take of %+v", x.m), p.d[1], 1, p.c[1], x.m, int(x.want), x.want)
	}
}

// As many as may be open are taken, covered in one commitment, and one more isn't.
func TestTakeOfMany(t *testing.T) {
	const what = "P22.1: Take of many"
	p := two(t)
	for range api.MaxOpen {
		p.offer(0, 1)
	}
	p.sign(0)
	if s := p.c[1].State(); s.At.Peers != api.MaxOpen || s.Local != 1 {
		t.Errorf("%s: %s", what, shown(s))
	}
	refuses(t, what, api.ErrMany)(p.c[0].Offer(1, none))
	m := api.Message{Kind: api.MsgAdd, ID: api.MaxOpen, Amount: 1}
	failing(t, what, p.d[1], 1, p.c[1], m, int(api.ErrMany), api.ErrMany)
}

// A commitment makes what was heard durable, and then the mark; of the message only the index and the signature count.
func TestTakeCommit(t *testing.T) {
	const what = "P22.1: Take of a commitment"
	p := two(t)
	p.offer(0, 10)
	p.offer(0, 20)
	b := p.c[1]
	m := p.one(p.c[0].Sign())
	want := b.State()
	want.Local, want.At, want.Sig = 1, api.Counts{Peers: 2}, m.Hash
	sends(t, what, dance.Reveal(config(1), 0))(b.Take(stray(m, strayID, strayAmount, strayNext, straySecret, strayNote)))
	tells(t, what, b, want)
	marks(t, what, b, 0)
	if s, n := durable(t, what, p.d[1], 1); !sameState(s, want) || n != 0 {
		t.Errorf("P22.2: %s: durable is %s, and the mark %d", what, shown(s), n)
	}
}

func TestTakeOfWrongCommitments(t *testing.T) {
	for _, x := range []struct {
		what   string
		change func(p *duo, m *api.Message)
		want   api.Errno
	}{
		{"index 0", func(p *duo, m *api.Message) { m.Index = 0 }, api.ErrIndex},
		{"index 2", func(p *duo, m *api.Message) { m.Index = 2 }, api.ErrIndex},
		{"the seal of another text", func(p *duo, m *api.Message) { m.Hash = seal.Sign(config(0).Key, "x") }, api.ErrSeal},
		{"no seal", func(p *duo, m *api.Message) { m.Hash = none }, api.ErrSeal},
		{"the add isn't there", func(p *duo, m *api.Message) { p.c[1].Cut() }, api.ErrState},
		{"an add too many", func(p *duo, m *api.Message) { p.offer(0, 1) }, api.ErrSeal},
	} {
		p := two(t)
		p.offer(0, 10)
		m := p.one(p.c[0].Sign())
		x.change(p, &m)
		failing(t, "P22.1: Take of a commitment: "+x.what, p.d[1], 1, p.c[1], m, int(x.want), x.want)
	}
	p := two(t)
	p.offer(0, 10)
	m := p.one(p.c[0].Sign())
	p.pass(0, []api.Message{m}, api.OK)
	failing(t, "P22.1: Take of a commitment twice", p.d[1], 1, p.c[1], m, int(api.ErrIndex), api.ErrIndex)
}

// The disk refuses the log: nothing has happened, and what was heard is there. It refuses the mark: the commitment counts, nothing is told, and it is behind the next hello.
func TestTakeCommitRefused(t *testing.T) {
	const what = "P22.3: Take of a commitment, refused"
	for n := 1; n <= 4; n++ {
		p := two(t)
		p.offer(0, 10)
		m := p.one(p.c[0].Sign())
		b, before := p.c[1], p.c[1].State()
		p.d[1].Arm(n, disk.Any)
		refuses(t, what, api.ErrDisk)(b.Take(m))
		lives(t, what, b)
		marks(t, what, b, -1)
		if n <= 2 {
			tells(t, what, b, before)
			sends(t, what, dance.Reveal(config(1), 0))(b.Take(m))
			continue
		}
		want := before
		want.Local, want.At, want.Sig = 1, api.Counts{Peers: 1}, m.Hash
		tells(t, what, b, want)
		b.Cut()
		tells(t, what, b, want)
		p.d[1].Arm(1, disk.Syncs)
		refuses(t, what, api.ErrDisk)(b.Answer(p.c[0].Hello()))
		tells(t, what, b, want)
		marks(t, what, b, -1)
		sends(t, what, dance.Reveal(config(1), 0))(b.Answer(p.c[0].Hello()))
		marks(t, what, b, 0)
		if _, mark := durable(t, what, p.d[1], 1); mark != 0 {
			t.Errorf("P22.4: %s: the durable mark is %d", what, mark)
		}
	}
}

func TestTakeRevoke(t *testing.T) {
	const what = "P22.1: Take of a revocation"
	p := two(t)
	p.offer(0, 10)
	m := p.one(p.c[1].Take(p.one(p.c[0].Sign())))
	a, before := p.c[0], p.c[0].State()
	for n := 1; n <= 2; n++ {
		p.d[0].Arm(n, disk.Any)
		refuses(t, what, api.ErrDisk)(a.Take(m))
		tells(t, "P22.3: "+what, a, before)
	}
	sends(t, what)(a.Take(stray(m, strayID, strayAmount, strayNext, strayNote)))
	s := a.State()
	if s.Acked != 1 || s.Held != s.Signed || s.Points != [2]api.Hash{sum(secretOf(1, 1)), sum(secretOf(1, 2))} {
		t.Errorf("%s: %s", what, shown(s))
	}
	marks(t, what, a, -1)
	if kept, _ := durable(t, what, p.d[0], 0); !sameState(kept, s) {
		t.Errorf("P22.2: %s: durable is %s", what, shown(kept))
	}
	failing(t, what+" twice", p.d[0], 0, a, m, int(api.ErrIndex), api.ErrIndex)
}

func TestTakeOfWrongRevocations(t *testing.T) {
	for _, x := range []struct {
		what   string
		change func(m *api.Message)
		want   api.Errno
	}{
		{"index 1", func(m *api.Message) { m.Index = 1 }, api.ErrIndex},
		{"index -1", strayIndex, api.ErrIndex},
		{"another secret", straySecret, api.ErrSecret},
		{"my own secret", func(m *api.Message) { m.Secret = secretOf(0, 0) }, api.ErrSecret},
	} {
		p := two(t)
		p.offer(0, 10)
		m := p.one(p.c[1].Take(p.one(p.c[0].Sign())))
		x.change(&m)
		failing(t, "P22.1: Take of a revocation: "+x.what, p.d[0], 0, p.c[0], m, int(x.want), x.want)
	}
}

func TestTakeError(t *testing.T) {
	for _, x := range []struct {
		index int64
		code  int
	}{
		{1, 1}, {110, 110}, {255, 255}, {180, 180}, {220, 220}, {65535, 65535},
		{0, 160}, {-1, 160}, {65536, 160}, {65536 + 110, 160}, {1<<32 + 5, 160}, {maxIndex, 160}, {-1 << 63, 160},
	} {
		what := fmt.Sprint("P22.1: Take of the error ", x.index)
		p := two(t)
		p.offer(0, 10)
		m := stray(api.Message{Kind: api.MsgError, Index: x.index}, strayID, strayAmount, strayNext, straySecret, strayHash, strayNote)
		failing(t, what, p.d[1], 1, p.c[1], m, x.code, api.ErrDead)
		if x.code == int(api.ErrLost) {
			untold(t, what, p.c[1], api.ErrLost)
		} else if index, _, _, e := p.c[1].Close(); index != 0 || e != api.OK {
			t.Errorf("%s: Close tells %d, %d", what, index, e)
		}
	}
}

func TestTakeOfOtherKinds(t *testing.T) {
	for _, kind := range []int{0, api.MsgHello, 8, 9, 99, -1, 1 << 32, 1<<32 + 1, -1 << 63} {
		p := two(t)
		p.offer(0, 10)
		m := api.Message{Kind: kind, Index: 1, Amount: 5}
		failing(t, fmt.Sprint("P22.1: Take of the kind ", kind), p.d[1], 1, p.c[1], m, int(api.ErrMessage), api.ErrMessage)
	}
}

// The disk refuses a failure: the channel is dead till it is opened anew, with the first code; it closes, if it isn't lost.
func TestFailureRefused(t *testing.T) {
	const what = "P22.1: a failure, refused"
	for n := 1; n <= 2; n++ {
		for _, code := range []int64{110, 180} {
			p := two(t)
			p.offer(1, 10)
			p.offer(0, 10)
			b, before := p.c[1], p.c[1].State()
			p.d[1].Arm(n, disk.Any)
			refuses(t, what, api.ErrDead)(b.Take(api.Message{Kind: api.MsgError, Index: code}))
			hasFailed(t, what, b, int(code))
			want := before
			want.Failed = int(code)
			tells(t, what, b, want)
			unasked(t, what, p.d[1], func() {
				refuses(t, what, api.ErrDead)(b.Take(api.Message{Kind: api.MsgError, Index: 7}))
				refuses(t, what, api.ErrDead)(b.Take(api.Message{Kind: 99}))
				refuses(t, what, api.ErrDead)(b.Answer(api.Message{Kind: 99}))
				refuses(t, what, api.ErrDead)(b.Offer(1, none))
				refuses(t, what, api.ErrDead)(b.Settle(0, none))
				refuses(t, what, api.ErrDead)(b.Refuse(0, ""))
				refuses(t, what, api.ErrDead)(b.Sign())
			})
			tells(t, what, b, want)
			is(t, what+": Checkpoint", b.Checkpoint(), api.OK)
			tells(t, what, b, want)
			anew := opens(t, what, p.d[1].Copy(), 1)
			lives(t, what+": opened anew", anew)
			tells(t, what+": opened anew", anew, dance.Cut(before))
			b.Cut()
			want = dance.Cut(want)
			tells(t, what+": Cut", b, want)
			if code == 180 {
				untold(t, what, b, api.ErrLost)
				continue
			}
			if index, text, sig, e := b.Close(); index != 0 || text == "" || sig != none || e != api.OK {
				t.Errorf("%s: Close tells %d, %q, %x, %d", what, index, text, sig, e)
			}
			want.Closed = 0
			tells(t, what, b, want)
			hasFailed(t, what+": opened anew", opens(t, what, p.d[1], 1), 0)
		}
	}
}

// The power goes when the failure is made durable: the message's error is answered, and the failure may be there behind it.
func TestFailureWithoutPower(t *testing.T) {
	const what = "P22.2: a failure, with the power gone"
	for n := 1; n <= 2; n++ {
		for _, kind := range []int{api.FateLost, api.FateKept} {
			p := two(t)
			b := p.c[1]
			p.d[1].Fall(n)
			refuses(t, what, api.ErrMessage)(b.Take(api.Message{}))
			hasFailed(t, what, b, int(api.ErrMessage))
			untold(t, what, b, api.ErrLog)
			crash(p.d[1], api.Fate{File: "log.0", Kind: kind})
			b = opens(t, what, p.d[1], 1)
			if n == 2 && kind == api.FateKept {
				hasFailed(t, what, b, int(api.ErrMessage))
			} else {
				lives(t, what, b)
			}
		}
	}
}
