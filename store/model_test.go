package store

import (
	"fmt"
	"math/rand"
	"strings"
	"testing"

	"escrow/api"
	"escrow/check"
	"escrow/dance"
	"escrow/disk"
	"escrow/frame"
	"escrow/mark"
	"escrow/record"
	"escrow/wal"
)

// model is the chapter's words done one by one, with the layers below as they are.
type model struct {
	d     *disk.Disk
	log   *wal.Log
	mark  *mark.Mark
	state api.State
}

// modelBatch is the records that a payload is, at least one.
func modelBatch(payload string) ([]api.Record, bool) {
	var l []api.Record
	for at := 0; at < len(payload); {
		r, n, e := record.Read(payload[at:])
		if e != api.OK {
			return nil, false
		}
		l = append(l, r)
		at += n
	}
	return l, len(l) > 0
}

func modelApply(s api.State, l []api.Record) (api.State, bool) {
	for _, r := range l {
		next, e := record.Apply(s, r)
		if e != api.OK {
			return api.State{}, false
		}
		s = next
	}
	return s, true
}

func modelOpen(d *disk.Disk, c api.Config) (*model, api.Errno) {
	begun, e := dance.Start(c)
	if e != api.OK {
		return nil, e
	}
	n, state := int64(0), begun
	switch b, e := check.Load(d, "check"); e {
	case api.OK:
		var ok bool
		if n, state, ok = modelRead(b); !ok {
			return nil, api.ErrStore
		}
		parts := [4]int64{int64(state.Side), state.Capacity, state.BaseOurs, state.BasePeers}
		if parts != [4]int64{int64(begun.Side), begun.Capacity, begun.BaseOurs, begun.BasePeers} {
			return nil, api.ErrStore
		}
	case api.ErrNone:
	default:
		return nil, e
	}
	log, payloads, e := wal.Open(d, "log", c.Segment, n)
	if e != api.OK {
		return nil, e
	}
	for _, p := range payloads {
		l, ok := modelBatch(p)
		if ok {
			state, ok = modelApply(state, l)
		}
		if !ok {
			return nil, api.ErrStore
		}
	}
	k, e := mark.Open(d, "mark")
	if e != api.OK {
		return nil, e
	}
	return &model{d, log, k, state}, api.OK
}

func (m *model) do(l []api.Record) api.Errno {
	if len(l) == 0 {
		return api.ErrArg
	}
	var all []byte
	for _, r := range l {
		b, e := record.Write(r)
		if e != api.OK {
			return api.ErrRecord
		}
		all = append(all, b...)
	}
	next, ok := modelApply(m.state, l)
	if !ok {
		return api.ErrRecord
	}
	if len(all) > 65536 {
		return api.ErrLong
	}
	e := m.log.Append(string(all))
	if e == api.OK {
		m.state = next
	}
	return e
}

func (m *model) checkpoint() api.Errno {
	n := m.log.Next()
	b, ok := modelWrite(n, m.state)
	if !ok {
		return api.ErrStore
	}
	if e := check.Save(m.d, "check", b); e != api.OK {
		return e
	}
	return m.log.Reset(n)
}

// player makes the same calls by chance: of a store on one disk, and of the model on another.
type player struct {
	*rand.Rand
	d, e *disk.Disk
	s    *Store
	m    *model
	said []string
}

func pick[T any](r *rand.Rand, of ...T) T { return of[r.Intn(len(of))] }

func (p *player) config() api.Config {
	c := config()
	c.Segment = pick(p.Rand, 64, 64, 128, 500, 1000, 4096, 1048576)
	switch p.Intn(16) {
	case 0:
		c.Side = pick(p.Rand, 1, 2)
	case 1:
		c.Ours = pick[int64](p.Rand, 0, 600, 1000, 1001)
	case 2:
		c.Segment = pick(p.Rand, 0, 63, 1048577)
	case 3:
		c.Points[1] = each(9)
	}
	return c
}

func (p *player) state() api.State {
	if p.m != nil && p.Intn(4) > 0 {
		return p.m.state
	}
	s, _ := dance.Start(p.config())
	return s
}

func (p *player) next() int64 {
	n := int64(p.Intn(3))
	if p.m != nil {
		n = p.m.log.Next()
	}
	return pick(p.Rand, n, n, n, n, 0, max(n-1, 0), n+1, 1<<60)
}

// payload is a batch more often than not.
func (p *player) payload() string {
	l, _, ok := batchFor(p.Rand, p.state())
	var b strings.Builder
	for _, r := range l {
		text, _ := record.Write(r)
		b.WriteString(text)
	}
	if !ok && p.Intn(2) == 0 {
		return "\x07junk"[:p.Intn(6)]
	}
	return b.String()
}

// bytes are such as may stand in a file of a store.
func (p *player) bytes(file string) string {
	var b strings.Builder
	switch {
	case strings.HasPrefix(file, "check"):
		d, _ := disk.New(1 << 20)
		text, _ := modelWrite(p.next(), p.state())
		if p.Intn(6) == 0 {
			text = text[:len(text)-p.Intn(4)]
		}
		check.Save(d, "c", text)
		saved, _ := d.Read("c", 0, api.MaxFile)
		b.WriteString(saved)
	case strings.HasPrefix(file, "log"):
		n := p.next()
		for range p.Intn(3) {
			text, _ := frame.Frame(n, p.payload())
			b.WriteString(text)
			n++
		}
	default:
		d, _ := disk.New(1 << 20)
		m, _ := mark.Open(d, "m")
		m.Raise(int64(p.Intn(9)))
		text, _ := d.Read("m", 0, 128)
		b.WriteString(text)
	}
	if p.Intn(5) == 0 {
		b.WriteString("junk"[:p.Intn(5)])
	}
	return b.String()
}

func (p *player) file() string {
	if list := p.e.List(); len(list) > 0 && p.Intn(3) > 0 {
		return pick(p.Rand, list...)
	}
	return pick(p.Rand, "check", "check", "check.tmp", "log.0", "log.0", "log.1", "log.2", "log.x", "mark", "mark.tmp", "other")
}

func (p *player) fates() []api.Fate {
	var fates []api.Fate
	for range p.Intn(30) {
		file := p.file()
		text := p.bytes(file)
		fates = append(fates, api.Fate{File: file, Sector: p.Intn(5), Kind: pick(p.Rand, -1, 0, 1, 1, 1, 2), Bytes: text[:min(len(text), 70)]})
	}
	return fates
}

// both does one thing to both disks, and says what.
func (p *player) both(what string, do func(d *disk.Disk) api.Errno) {
	got, want := do(p.d), do(p.e)
	p.said = append(p.said, fmt.Sprintf("%s: %d", what, want))
	if got != want {
		panic("the disks aren't the same")
	}
}

// disturb is what others do to the disk, and what the world does to its power.
func (p *player) disturb() {
	file, n, what := p.file(), p.Intn(6), p.Intn(3)
	switch p.Intn(10) {
	case 0, 1:
		text := p.bytes(file)
		p.both(fmt.Sprintf("write %q %x", file, text), func(d *disk.Disk) api.Errno {
			if what > 0 {
				d.Remove(file)
			}
			return d.Write(file, 0, text)
		})
	case 2:
		p.both("remove "+file, func(d *disk.Disk) api.Errno { return d.Remove(file) })
	case 3:
		p.both("truncate "+file, func(d *disk.Disk) api.Errno { return d.Truncate(file, 64*n-what) })
	case 4, 5:
		p.both(fmt.Sprint("arm ", n, what), func(d *disk.Disk) api.Errno { d.Arm(n, what); return 0 })
	case 6, 7:
		p.both(fmt.Sprint("fall ", n), func(d *disk.Disk) api.Errno { d.Fall(n); return 0 })
	case 8:
		fates := p.fates()
		p.both(fmt.Sprintf("crash %#v", fates), func(d *disk.Disk) api.Errno { d.Crash(fates); return 0 })
	}
	if p.e.Off() && p.Intn(3) > 0 {
		fates := p.fates()
		p.both(fmt.Sprintf("crash, on %#v", fates), func(d *disk.Disk) api.Errno { d.Crash(fates); d.On(); return 0 })
	}
}

func (p *player) open() bool {
	c := p.config()
	s, e := Open(p.d, c)
	m, f := modelOpen(p.e, c)
	p.said = append(p.said, fmt.Sprintf("Open(%+v): %d", c, f))
	if s != nil && m != nil {
		p.s, p.m = s, m
	}
	return e == f && (s == nil) == (m == nil)
}

func (p *player) do() bool {
	l, _, _ := batchFor(p.Rand, p.m.state)
	switch p.Intn(300) {
	case 0:
		l = nil
	case 1:
		for range 21845 {
			l = append(l, failed(9))
		}
	}
	e, f := p.s.Do(l), p.m.do(l)
	p.said = append(p.said, fmt.Sprintf("Do(%+v): %d", l[:min(len(l), 5)], f))
	return e == f
}

// play makes one call of the store and of the model: do they answer the same?
func (p *player) play() bool {
	if p.s == nil || p.Intn(8) == 0 {
		return p.open()
	}
	switch p.Intn(10) {
	case 0, 1, 2, 3:
		return p.do()
	case 4:
		n := pick(p.Rand, -2, -1, p.m.mark.Value()-1, p.m.mark.Value()+1, p.m.mark.Value()+3, maxIndex+1)
		e, f := p.s.Raise(n), p.m.mark.Raise(n)
		p.said = append(p.said, fmt.Sprintf("Raise(%d): %d", n, f))
		return e == f
	case 5, 6:
		e, f := p.s.Checkpoint(), p.m.checkpoint()
		p.said = append(p.said, fmt.Sprintf("Checkpoint(): %d", f))
		return e == f
	}
	p.disturb()
	return true
}

func (p *player) alike() bool {
	if p.s != nil && (p.s.Mark() != p.m.mark.Value() || !sameState(p.s.State(), p.m.state)) {
		return false
	}
	return whole(p.d) == whole(p.e)
}

// P21.1: every call answers as said, in every order, on every disk, and does to the disk what is said and nothing else.
func TestAgainstModel(t *testing.T) {
	t.Parallel()
	seen := map[string]int{}
	for seed := range int64(1000) {
		p := &player{Rand: rand.New(rand.NewSource(seed))}
		capacity := pick(p.Rand, 100, 600, 2000, 5000, 1<<20)
		p.d, p.e = made(t, capacity), made(t, capacity)
		for i := range pick(p.Rand, 0, 0, 0, 8, 12, 16) {
			p.both("write", func(d *disk.Disk) api.Errno { return d.Write(fmt.Sprint("f", i), 0, "") })
		}
		for range 50 {
			if !p.play() || !p.alike() {
				t.Fatalf("P21.1: seed %d: not as the model answers:\n%s", seed, strings.Join(p.said, "\n"))
			}
		}
		for _, s := range p.said {
			call, _, _ := strings.Cut(s, "(")
			at := strings.LastIndex(s, ": ")
			seen[call+s[at+1:]]++
		}
	}
	for _, want := range []string{
		"Open 0", "Open 1", "Open 6", "Open 9", "Open 40", "Open 41", "Open 60", "Open 70", "Open 190", "Open 210",
		"Do 0", "Do 1", "Do 3", "Do 6", "Do 9", "Do 40", "Do 41", "Do 60", "Do 170",
		"Raise 0", "Raise 1", "Raise 9", "Raise 40",
		"Checkpoint 0", "Checkpoint 5", "Checkpoint 6", "Checkpoint 9", "Checkpoint 40", "Checkpoint 41", "Checkpoint 60",
	} {
		if seen[want] < 5 {
			t.Errorf("the play had %q %d times", want, seen[want])
		}
	}
}
