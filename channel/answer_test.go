package channel

import (
	"fmt"
	"testing"

	"escrow/api"
	"escrow/dance"
	"escrow/disk"
	"escrow/resume"
)

// What is missing is sent, and nothing is done to the disk; of the hello only what is named counts.
func TestAnswer(t *testing.T) {
	const what = "P22.1: Answer"
	p := two(t)
	p.offer(0, 10)
	p.fix(0)
	a := p.c[0]
	first := p.one(a.Offer(20, none))
	commit := p.one(a.Sign())
	second := p.one(a.Offer(30, none))
	b := p.c[1]
	hello := stray(b.Hello(), strayID, strayAmount, strayHash, strayNote)
	want := a.State()
	unasked(t, what, p.d[0], func() {
		p.d[0].Arm(1, disk.Any)
		for range 2 {
			sends(t, what, first, commit, second)(a.Answer(hello))
			tells(t, what, a, want)
		}
		sends(t, what)(b.Answer(a.Hello()))
	})
	if a.Hello() != resume.Hello(config(0), want) || a.Hello() != (api.Message{Kind: api.MsgHello, Index: 2, Next: 1, Secret: secretOf(1, 0)}) {
		t.Errorf("P22.1: Hello tells %+v", a.Hello())
	}
	p.d[0].Arm(0, disk.Any)
	p.pass(0, []api.Message{first, commit, second}, api.OK)
}

// resume's errors fail the channel, durably; the kind is asked ahead of them.
func TestAnswerFails(t *testing.T) {
	for _, x := range []struct {
		what   string
		change func(m *api.Message)
		want   api.Errno
	}{
		{"no hello", func(m *api.Message) { m.Kind = api.MsgCommit }, api.ErrMessage},
		{"an error", func(m *api.Message) { m.Kind = api.MsgError }, api.ErrMessage},
		{"no kind", func(m *api.Message) { *m = api.Message{} }, api.ErrMessage},
		{"another secret", straySecret, api.ErrSecret},
		{"no secret", func(m *api.Message) { m.Secret = none }, api.ErrSecret},
		{"a next above all", strayNext, api.ErrSecret},
		{"a secret that I never told", func(m *api.Message) { m.Next, m.Secret = 3, secretOf(0, 2) }, api.ErrLost},
		{"a secret of the commitment that counts", func(m *api.Message) { m.Next, m.Secret = 2, secretOf(0, 1) }, api.ErrLost},
		{"a next below 0", func(m *api.Message) { m.Next = -1 }, api.ErrIndex},
		{"another index", func(m *api.Message) { m.Index = 4 }, api.ErrIndex},
		{"an index that it has", func(m *api.Message) { m.Index = 1 }, api.ErrIndex},
	} {
		what := "P22.1: Answer: " + x.what
		p := two(t)
		p.offer(0, 10)
		p.fix(0)
		p.offer(1, 10)
		a, hello := p.c[0], p.c[1].Hello()
		x.change(&hello)
		want := a.State()
		want.Failed = int(x.want)
		refuses(t, what, x.want)(a.Answer(hello))
		hasFailed(t, what, a, int(x.want))
		tells(t, what, a, want)
		refuses(t, what+": dead", api.ErrDead)(a.Answer(p.c[1].Hello()))
		refuses(t, what+": dead", api.ErrDead)(a.Answer(api.Message{}))
		again := opens(t, "P22.2: "+what, p.d[0], 0)
		tells(t, "P22.2: "+what, again, dance.Cut(want))
		for _, c := range []*Channel{a, again} {
			if x.want == api.ErrLost {
				untold(t, "P22.4: "+what, c, api.ErrLost)
			} else if index, _, _, e := c.Close(); index != 1 || e != api.OK {
				t.Errorf("%s: Close tells %d, %d", what, index, e)
			}
		}
	}
}

// The mark is raised behind the kind and ahead of all else that a hello says.
func TestAnswerRaises(t *testing.T) {
	const what = "P22.4: Answer, with the mark behind"
	unraised := func() (*duo, *Channel) {
		p := two(t)
		p.offer(0, 10)
		m := p.one(p.c[0].Sign())
		p.d[1].Arm(3, disk.Any)
		refuses(t, what, api.ErrDisk)(p.c[1].Take(m))
		p.c[1].Cut()
		marks(t, what, p.c[1], -1)
		return p, p.c[1]
	}
	for n := 1; n <= 2; n++ {
		for _, off := range []bool{false, true} {
			p, b := unraised()
			want, e := b.State(), api.ErrDisk
			p.d[1].Arm(n, disk.Any)
			if off {
				p.d[1].Fall(n)
				e = api.ErrOff
			}
			refuses(t, fmt.Sprint(what, ", refused at ", n), e)(b.Answer(api.Message{Kind: api.MsgHello, Index: 7, Next: 7}))
			tells(t, what, b, want)
			marks(t, what, b, -1)
			lives(t, what, b)
		}
	}
	p, b := unraised()
	refuses(t, what, api.ErrMessage)(b.Answer(api.Message{Kind: api.MsgCommit}))
	marks(t, what+": no hello", b, -1)
	p, b = unraised()
	refuses(t, what, api.ErrSecret)(b.Answer(api.Message{Kind: api.MsgHello, Next: 7}))
	marks(t, what+": a wrong hello", b, 0)
	hasFailed(t, what, b, int(api.ErrSecret))
	p, b = unraised()
	sends(t, what, dance.Reveal(config(1), 0))(b.Answer(p.c[0].Hello()))
	marks(t, what, b, 0)
	if _, mark := durable(t, what, p.d[1], 1); mark != 0 {
		t.Errorf("%s: what is durable is %d", what, mark)
	}
}

// A failure behind a hello that the disk refuses.
func TestAnswerFailureRefused(t *testing.T) {
	const what = "P22.1: Answer, with the failure refused"
	for n := 1; n <= 2; n++ {
		p := two(t)
		p.d[0].Arm(n, disk.Any)
		refuses(t, what, api.ErrLost)(p.c[0].Answer(api.Message{Kind: api.MsgHello, Index: 1, Next: 1, Secret: secretOf(0, 0)}))
		hasFailed(t, what, p.c[0], int(api.ErrLost))
		untold(t, what, p.c[0], api.ErrLost)
		c := opens(t, what, p.d[0], 0)
		tells(t, what, c, start(t, 0))
		closes(t, what, c, 0, textOf(0, 0, 700, 300), none)
	}
}
