package channel

import (
	"crypto/sha256"
	"fmt"
	"reflect"
	"slices"
	"strings"
	"testing"

	"escrow/api"
	"escrow/check"
	"escrow/dance"
	"escrow/disk"
	"escrow/mark"
	"escrow/seed"
	"escrow/store"
)

const maxIndex = 281474976710655

var none api.Hash

func sum(h api.Hash) api.Hash { return sha256.Sum256(h[:]) }

func named(what string, n int64) api.Hash { return sha256.Sum256(fmt.Append(nil, what, n)) }

// preimage is the one of the add that a side makes with an ID.
func preimage(side int, id int64) api.Hash { return named(fmt.Sprint("preimage of side ", side), id) }

func secretOf(side int, n int64) api.Hash {
	h, _ := seed.Secret(named("seed", int64(side)), n)
	return h
}

// config is the one of a side of the chapter's examples.
func config(side int) api.Config {
	return api.Config{
		Side: side, Capacity: 1000, Ours: []int64{700, 300}[side], Segment: 4096,
		Seed: named("seed", int64(side)), Key: named("key", int64(side)), PeerKey: named("key", int64(1-side)),
		Points: [2]api.Hash{sum(secretOf(1-side, 0)), sum(secretOf(1-side, 1))},
	}
}

func start(t *testing.T, side int) api.State {
	t.Helper()
	s, e := dance.Start(config(side))
	is(t, "Start", e, api.OK)
	return s
}

func made(t *testing.T, capacity int) *disk.Disk {
	t.Helper()
	d, e := disk.New(capacity)
	is(t, "disk.New", e, api.OK)
	return d
}

func crash(d *disk.Disk, fates ...api.Fate) {
	d.Crash(fates)
	d.On()
}

func is(t *testing.T, what string, got, want api.Errno) {
	t.Helper()
	if got != want {
		t.Fatalf("%s answers %d, want %d", what, got, want)
	}
}

// opens: Open of a side is OK.
func opens(t *testing.T, what string, d *disk.Disk, side int) *Channel {
	t.Helper()
	return openWith(t, what, d, config(side))
}

func openWith(t *testing.T, what string, d *disk.Disk, c api.Config) *Channel {
	t.Helper()
	ch, e := Open(d, c)
	if ch == nil || e != api.OK {
		t.Fatalf("%s: Open = %v, %d", what, ch, e)
	}
	return ch
}

// fails: Open tells this error, and no channel.
func fails(t *testing.T, what string, d *disk.Disk, c api.Config, want api.Errno) {
	t.Helper()
	if ch, e := Open(d, c); ch != nil || e != want {
		t.Fatalf("%s: Open = %v, %d, want %d", what, ch, e, want)
	}
}

// sends: a call is OK, and just these are to be sent.
func sends(t *testing.T, what string, want ...api.Message) func(l []api.Message, e api.Errno) {
	t.Helper()
	return func(l []api.Message, e api.Errno) {
		t.Helper()
		if e != api.OK || !slices.Equal(l, want) {
			t.Fatalf("%s: %+v, %d, want %+v", what, l, e, want)
		}
	}
}

// refuses: a call answers this error, and nothing is to be sent.
func refuses(t *testing.T, what string, want api.Errno) func(l []api.Message, e api.Errno) {
	t.Helper()
	return func(l []api.Message, e api.Errno) {
		t.Helper()
		if e != want || len(l) != 0 {
			t.Fatalf("%s: %+v, %d, want the error %d alone", what, l, e, want)
		}
	}
}

// untold: Close answers this error, and tells nothing.
func untold(t *testing.T, what string, c *Channel, want api.Errno) {
	t.Helper()
	if index, text, sig, e := c.Close(); index != 0 || text != "" || sig != none || e != want {
		t.Fatalf("%s: Close tells %d, %q, %x, %d, want the error %d alone", what, index, text, sig, e, want)
	}
}

func sameState(a, b api.State) bool {
	if !slices.Equal(a.Ours, b.Ours) || !slices.Equal(a.Peers, b.Peers) || !slices.Equal(a.Shelf, b.Shelf) {
		return false
	}
	a.Ours, a.Peers, a.Shelf = nil, nil, nil
	b.Ours, b.Peers, b.Shelf = nil, nil, nil
	return reflect.DeepEqual(a, b)
}

// shown is a state with its lists cut short.
func shown(s api.State) string {
	n, m, k := len(s.Ours), len(s.Peers), len(s.Shelf)
	s.Ours, s.Peers, s.Shelf = s.Ours[:min(n, 3)], s.Peers[:min(m, 3)], nil
	return fmt.Sprintf("%d, %d updates, %d slots: %+v", n, m, k, s)
}

func tells(t *testing.T, what string, c *Channel, want api.State) {
	t.Helper()
	if got := c.State(); !sameState(got, want) {
		t.Fatalf("%s: the state is\n%s, want\n%s", what, shown(got), shown(want))
	}
}

func marks(t *testing.T, what string, c *Channel, want int64) {
	t.Helper()
	if got := c.Mark(); got != want {
		t.Fatalf("%s: the mark is %d, want %d", what, got, want)
	}
}

// hasFailed: the channel is dead with this code; with 0 it is closed alone.
func hasFailed(t *testing.T, what string, c *Channel, want int) {
	t.Helper()
	if code, dead := c.Dead(); code != want || !dead || c.State().Failed != want {
		t.Fatalf("%s: Dead tells %d, %v, and the state %d, want %d", what, code, dead, c.State().Failed, want)
	}
}

func lives(t *testing.T, what string, c *Channel) {
	t.Helper()
	if code, dead := c.Dead(); code != 0 || dead {
		t.Fatalf("%s: Dead tells %d, %v", what, code, dead)
	}
}

// durable is the state and the mark that a store on a copy of the disk tells behind a crash in which all is lost that can be.
func durable(t *testing.T, what string, d *disk.Disk, side int) (api.State, int64) {
	t.Helper()
	c := d.Copy()
	crash(c)
	s, e := store.Open(c, config(side))
	is(t, what+": store.Open", e, api.OK)
	return s.State(), s.Mark()
}

// lay has the disk hold a checkpoint of a state, and a mark.
func lay(t *testing.T, d *disk.Disk, s api.State, value int64) {
	t.Helper()
	b, e := store.Write(0, s)
	is(t, "store.Write", e, api.OK)
	is(t, "Save", check.Save(d, "check", b), api.OK)
	m, e := mark.Open(d, "mark")
	is(t, "mark.Open", e, api.OK)
	is(t, "Raise", m.Raise(value), api.OK)
}

// telling is what is seen of a disk, and what is dirty.
func telling(b *strings.Builder, d *disk.Disk) {
	fmt.Fprintln(b, d.Off(), d.Used())
	for _, name := range d.List() {
		text, e := d.Read(name, 0, api.MaxFile)
		fmt.Fprintln(b, name, int(e), d.Dirty(name), len(text), text)
	}
}

// whole is what may be told of a disk: what is safe too, as a crash without fates leaves it.
func whole(d *disk.Disk) string {
	var b strings.Builder
	telling(&b, d)
	c := d.Copy()
	crash(c)
	telling(&b, c)
	return b.String()
}

// unasked: a call does nothing to the disk.
func unasked(t *testing.T, what string, d *disk.Disk, call func()) {
	t.Helper()
	before := whole(d)
	call()
	if whole(d) != before {
		t.Fatalf("%s: the disk is changed", what)
	}
}

// duo is both sides of a channel, each on a disk of its own.
type duo struct {
	t *testing.T
	d [2]*disk.Disk
	c [2]*Channel
}

func two(t *testing.T) *duo {
	t.Helper()
	p := &duo{t: t}
	for side := range 2 {
		p.d[side] = made(t, 1<<20)
		p.c[side] = opens(t, "P22.1", p.d[side], side)
	}
	return p
}

// pass has the other side take what a side sends, and this one what is said to it, till nothing is left.
func (p *duo) pass(side int, l []api.Message, e api.Errno) {
	p.t.Helper()
	is(p.t, "P22.1: a call", e, api.OK)
	for _, m := range l {
		back, e := p.c[1-side].Take(m)
		is(p.t, fmt.Sprintf("P22.1: Take of %+v", m), e, api.OK)
		p.pass(1-side, back, api.OK)
	}
}

// offer is an add that goes over, with the next of its side's preimages.
func (p *duo) offer(side int, amount int64) {
	p.t.Helper()
	id := int64(0)
	for _, u := range p.c[side].State().Ours {
		if u.Kind == api.Add {
			id++
		}
	}
	l, e := p.c[side].Offer(amount, sum(preimage(side, id)))
	p.pass(side, l, e)
}

func (p *duo) sign(side int) {
	p.t.Helper()
	l, e := p.c[side].Sign()
	p.pass(side, l, e)
}

// fix has what a side proposed stand in both commitments.
func (p *duo) fix(side int) {
	p.t.Helper()
	p.sign(side)
	p.sign(1 - side)
}

// one is the only message that a call sends.
func (p *duo) one(l []api.Message, e api.Errno) api.Message {
	p.t.Helper()
	if e != api.OK || len(l) != 1 {
		p.t.Fatalf("P22.1: a call sends %+v, %d", l, e)
	}
	return l[0]
}

// stray is a message with something in the fields that its kind doesn't name.
func stray(m api.Message, fields ...func(*api.Message)) api.Message {
	for _, f := range fields {
		f(&m)
	}
	return m
}

func strayID(m *api.Message)     { m.ID = 77 }
func strayAmount(m *api.Message) { m.Amount = -5 }
func strayIndex(m *api.Message)  { m.Index = -9 }
func strayNext(m *api.Message)   { m.Next = maxIndex + 7 }
func straySecret(m *api.Message) { m.Secret = named("stray", 1) }
func strayHash(m *api.Message)   { m.Hash = named("stray", 2) }
func strayNote(m *api.Message)   { m.Note = strings.Repeat("stray", 99) }
