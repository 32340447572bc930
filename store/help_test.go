package store

import (
	"fmt"
	"reflect"
	"slices"
	"strings"
	"testing"

	"escrow/api"
	"escrow/dance"
	"escrow/disk"
	"escrow/frame"
	"escrow/hash"
	"escrow/record"
	"escrow/seed"
)

const (
	maxAmount = 1152921504606846976
	maxIndex  = 281474976710655
)

// config is the one of the chapter's examples.
func config() api.Config { return api.Config{Capacity: 1000, Ours: 700, Segment: 1000} }

func start(t *testing.T) api.State {
	t.Helper()
	s, e := dance.Start(config())
	if e != api.OK {
		t.Fatalf("Start tells %d", e)
	}
	return s
}

func addOf(id, amount int64) api.Update {
	return api.Update{Kind: api.Add, ID: id, Amount: amount, Hash: hash.Sum("p")}
}

func failOf(id int64, note string) api.Update {
	return api.Update{Kind: api.Fail, ID: id, Note: note}
}

func ours(u api.Update) api.Record { return api.Record{Kind: api.RecOurs, Update: u} }

// add is A of the chapter's examples, if the ID is 0.
func add(id int64) api.Record { return ours(api.Update{Kind: api.Add, ID: id, Amount: 5}) }

func failed(code int) api.Record { return api.Record{Kind: api.RecFailed, Code: code} }

func signed(index int64, ours, peers int) api.Record {
	return api.Record{Kind: api.RecSigned, Index: index, Counts: api.Counts{Ours: ours, Peers: peers}}
}

// came has so many adds of the peer's, whose first has that ID.
func came(index, id int64, n int) api.Record {
	r := api.Record{Kind: api.RecCame, Index: index, Sig: hash.Sum(fmt.Sprint("sig", index))}
	for i := range int64(n) {
		r.Updates = append(r.Updates, addOf(id+i, 3+i))
	}
	return r
}

// revoked has the secret that a peer of one seed tells.
func revoked(index int64) api.Record {
	secret, _ := seed.Secret(hash.Sum("seed of the peer"), index)
	return api.Record{Kind: api.RecRevoked, Index: index, Secret: secret, Point: hash.Sum(fmt.Sprint("point", index))}
}

func closed(index int64) api.Record { return api.Record{Kind: api.RecClosed, Index: index} }

// then is what records make of a state.
func then(t *testing.T, s api.State, l ...api.Record) api.State {
	t.Helper()
	for _, r := range l {
		next, e := record.Apply(s, r)
		if e != api.OK {
			t.Fatalf("Apply of %+v tells %d", r, e)
		}
		s = next
	}
	return s
}

// bytesOf is records' bytes, one behind the other.
func bytesOf(t *testing.T, l ...api.Record) string {
	t.Helper()
	var b strings.Builder
	for _, r := range l {
		text, e := record.Write(r)
		if e != api.OK {
			t.Fatalf("Write of %+v tells %d", r, e)
		}
		b.WriteString(text)
	}
	return b.String()
}

// frames is a segment with these payloads, the first of which has that number.
func frames(t *testing.T, n int64, payloads ...string) string {
	t.Helper()
	var b strings.Builder
	for i, p := range payloads {
		text, e := frame.Frame(n+int64(i), p)
		if e != api.OK {
			t.Fatalf("Frame tells %d", e)
		}
		b.WriteString(text)
	}
	return b.String()
}

func made(t *testing.T, capacity int) *disk.Disk {
	t.Helper()
	d, e := disk.New(capacity)
	if d == nil || e != api.OK {
		t.Fatalf("disk.New tells %d", e)
	}
	return d
}

// lay has a file stand on the disk with these bytes alone, all safe.
func lay(t *testing.T, d *disk.Disk, name, text string) {
	t.Helper()
	d.Remove(name)
	is(t, "Write", d.Write(name, 0, text), api.OK)
	is(t, "Sync", d.Sync(name), api.OK)
}

func is(t *testing.T, what string, got, want api.Errno) {
	t.Helper()
	if got != want {
		t.Fatalf("%s answers %d, want %d", what, got, want)
	}
}

func sameState(a, b api.State) bool {
	if !slices.Equal(a.Ours, b.Ours) || !slices.Equal(a.Peers, b.Peers) || !slices.Equal(a.Shelf, b.Shelf) {
		return false
	}
	a.Ours, a.Peers, a.Shelf = nil, nil, nil
	b.Ours, b.Peers, b.Shelf = nil, nil, nil
	return reflect.DeepEqual(a, b)
}

// shown is a state with its lists cut short.
func shown(s api.State) string {
	n, m, k := len(s.Ours), len(s.Peers), len(s.Shelf)
	s.Ours, s.Peers, s.Shelf = s.Ours[:min(n, 3)], s.Peers[:min(m, 3)], nil
	return fmt.Sprintf("%d, %d updates, %d slots: %+v", n, m, k, s)
}

func tells(t *testing.T, what string, s *Store, want api.State) {
	t.Helper()
	if got := s.State(); !sameState(got, want) {
		t.Fatalf("%s: the state is\n%s, want\n%s", what, shown(got), shown(want))
	}
}

func marks(t *testing.T, what string, s *Store, want int64) {
	t.Helper()
	if got := s.Mark(); got != want {
		t.Fatalf("%s: the mark is %d, want %d", what, got, want)
	}
}

// openWith: Open of a config is OK.
func openWith(t *testing.T, what string, d *disk.Disk, c api.Config) *Store {
	t.Helper()
	s, e := Open(d, c)
	if s == nil || e != api.OK {
		t.Fatalf("%s: Open = %v, %d", what, s, e)
	}
	return s
}

// opens: Open of the examples' config is OK, and tells this state.
func opens(t *testing.T, what string, d *disk.Disk, want api.State) *Store {
	t.Helper()
	s := openWith(t, what, d, config())
	tells(t, what, s, want)
	return s
}

// fails: Open tells this error, and no store.
func fails(t *testing.T, what string, d *disk.Disk, c api.Config, want api.Errno) {
	t.Helper()
	if s, e := Open(d, c); s != nil || e != want {
		t.Fatalf("%s: Open = %v, %d, want %d", what, s, e, want)
	}
}

// unasked: Open tells this error, and does nothing to the disk.
func unasked(t *testing.T, what string, d *disk.Disk, c api.Config, want api.Errno) {
	t.Helper()
	before := whole(d)
	fails(t, what, d, c, want)
	if whole(d) != before {
		t.Fatalf("%s: Open, refused with %d, changed the disk", what, want)
	}
}

func does(t *testing.T, what string, s *Store, l ...api.Record) {
	t.Helper()
	want := then(t, s.State(), l...)
	is(t, what+": Do", s.Do(l), api.OK)
	tells(t, what, s, want)
}

// refuses: Do answers this error, and the state is as it was.
func refuses(t *testing.T, what string, s *Store, want api.Errno, l ...api.Record) {
	t.Helper()
	before := s.State()
	is(t, what+": Do", s.Do(l), want)
	tells(t, what+": refused", s, before)
}

// unwritten: Do answers this error, and nothing is done to the disk.
func unwritten(t *testing.T, what string, d *disk.Disk, s *Store, want api.Errno, l ...api.Record) {
	t.Helper()
	before := whole(d)
	refuses(t, what, s, want, l...)
	if whole(d) != before {
		t.Fatalf("%s: Do, refused with %d, changed the disk", what, want)
	}
}

func lists(t *testing.T, what string, d *disk.Disk, want ...string) {
	t.Helper()
	if got := d.List(); !slices.Equal(got, want) {
		t.Fatalf("%s: the disk has %q, want %q", what, got, want)
	}
}

// holds: the file has just these bytes, all safe.
func holds(t *testing.T, what string, d *disk.Disk, name, want string) {
	t.Helper()
	c := d.Copy()
	for _, now := range []*disk.Disk{d, c} {
		if got, e := now.Read(name, 0, api.MaxFile); got != want || e != api.OK {
			t.Fatalf("%s: the file %q has %d bytes (%d), want %d: %x", what, name, len(got), e, len(want), got[:min(len(got), 200)])
		}
		crash(c)
	}
}

func crash(d *disk.Disk, fates ...api.Fate) {
	d.Crash(fates)
	d.On()
}

// telling is what is seen of a disk, and what is dirty.
func telling(b *strings.Builder, d *disk.Disk) {
	fmt.Fprintln(b, d.Off(), d.Used())
	for _, name := range d.List() {
		text, e := d.Read(name, 0, api.MaxFile)
		fmt.Fprintln(b, name, int(e), d.Dirty(name), len(text), text)
	}
}

// coming is what the coming Writes and Syncs of a disk answer.
func coming(b *strings.Builder, d *disk.Disk) {
	c := d.Copy()
	c.On()
	name := "probe"
	if list := c.List(); len(list) > 0 {
		name = list[0]
	}
	writes, syncs := c.Copy(), c.Copy()
	for range 8 {
		fmt.Fprintln(b, int(writes.Write(name, 0, "")), int(syncs.Sync(name)))
	}
}

// whole is all that may be told of a disk: what is safe too, as a crash without fates leaves it.
func whole(d *disk.Disk) string {
	var b strings.Builder
	telling(&b, d)
	coming(&b, d)
	c := d.Copy()
	crash(c)
	telling(&b, c)
	return b.String()
}
