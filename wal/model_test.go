package wal

import (
	"fmt"
	"maps"
	"math/rand"
	"regexp"
	"slices"
	"strconv"
	"strings"
	"testing"

	"escrow/api"
	"escrow/disk"
	"escrow/frame"
)

// model is the chapter's words done one by one, with whole maps in the place of what the log keeps.
type model struct {
	d       *disk.Disk
	name    string
	segment int
	next    int64
	dead    bool
	sizes   map[int]int     // of each segment's number: its bytes
	numbers map[int][]int64 // and the numbers of its frames
}

func modelName(name string) bool {
	return regexp.MustCompile(`^[!-~]{1,24}$`).MatchString(name)
}

// stand is a frame at the beginning of a text, of any number that a first frame may have.
func stand(text string) (int64, bool) {
	if len(text) < 16 {
		return 0, false
	}
	n, err := strconv.ParseUint(fmt.Sprintf("%x", text[4:12]), 16, 64)
	if err != nil || n > 1<<60-1 {
		return 0, false
	}
	_, _, what := frame.Next(text, 0, int64(n))
	return int64(n), what == frame.Whole
}

// segmentsOn are the numbers of the log's segments.
func segmentsOn(d *disk.Disk, name string) []int {
	var numbers []int
	form := regexp.MustCompile(`^` + regexp.QuoteMeta(name) + `\.(0|[1-9][0-9]{0,6})$`)
	for _, file := range d.List() {
		if found := form.FindStringSubmatch(file); found != nil {
			number, _ := strconv.Atoi(found[1])
			numbers = append(numbers, number)
		}
	}
	slices.Sort(numbers)
	return numbers
}

func modelOpen(d *disk.Disk, name string, segment int, first int64) (*model, []string, api.Errno) {
	if !modelName(name) || segment < 64 || segment > 1048576 || first < 0 || first > 1<<60 {
		return nil, nil, api.ErrArg
	}
	if d.Off() {
		return nil, nil, api.ErrOff
	}
	m := &model{d: d, name: name, segment: segment, sizes: map[int]int{}, numbers: map[int][]int64{}}
	numbers := segmentsOn(d, name)
	if len(numbers) > 0 && numbers[len(numbers)-1]-numbers[0] != len(numbers)-1 {
		return nil, nil, api.ErrLog
	}
	var payloads []string
	var all []int64
	cut := -1
	for i, number := range numbers {
		text, _ := d.Read(m.file(number), 0, 1<<30)
		at := 0
		for at < len(text) {
			n, ok := stand(text)
			if len(all) > 0 {
				n, ok = all[len(all)-1]+1, true
			}
			payload, size, what := frame.Next(text, at, n)
			if !ok || what != frame.Whole {
				break
			}
			payloads, all, at = append(payloads, payload), append(all, n), at+size
			m.numbers[number] = append(m.numbers[number], n)
		}
		m.sizes[number] = at
		if at < len(text) && i < len(numbers)-1 {
			return nil, nil, api.ErrLog
		}
		if at < len(text) {
			cut = number
		}
	}
	m.next = first
	if len(all) > 0 {
		m.next = all[len(all)-1] + 1
		if all[0] > first || m.next < first {
			return nil, nil, api.ErrLog
		}
	}
	if cut >= 0 {
		d.Truncate(m.file(cut), m.sizes[cut])
	}
	for _, number := range numbers {
		if e := d.Sync(m.file(number)); e != api.OK {
			return nil, nil, e
		}
	}
	from := 0
	for from < len(all) && all[from] < first {
		from++
	}
	return m, payloads[from:], api.OK
}

func (m *model) file(number int) string { return fmt.Sprintf("%s.%d", m.name, number) }

func (m *model) rising() []int { return slices.Sorted(maps.Keys(m.sizes)) }

func (m *model) append(payload string) api.Errno {
	if m.dead {
		return api.ErrLog
	}
	if len(payload) > 65536 {
		return api.ErrLong
	}
	if m.next >= 1<<60 {
		return api.ErrFull
	}
	text, _ := frame.Frame(m.next, payload)
	number, fresh := 0, true
	if r := m.rising(); len(r) > 0 {
		number = r[len(r)-1]
		fresh = m.sizes[number] > 0 && m.sizes[number]+len(text) > m.segment
		if fresh {
			number++
		}
	}
	if number > 9999999 {
		return api.ErrFull
	}
	at := m.sizes[number]
	if e := m.d.Write(m.file(number), at, text); e != api.OK {
		m.dead = e == api.ErrOff
		return e
	}
	switch e := m.d.Sync(m.file(number)); e {
	case api.OK:
		m.sizes[number] = at + len(text)
		m.numbers[number] = append(m.numbers[number], m.next)
		m.next++
		return e
	case api.ErrDisk:
		if fresh {
			m.d.Remove(m.file(number))
		} else {
			m.d.Truncate(m.file(number), at)
		}
		return e
	default:
		m.dead = true
		return e
	}
}

func (m *model) reset(n int64) api.Errno {
	if m.dead {
		return api.ErrLog
	}
	if n < 0 || n > m.next {
		return api.ErrArg
	}
	for _, number := range m.rising() {
		if slices.ContainsFunc(m.numbers[number], func(x int64) bool { return x >= n }) {
			break
		}
		if e := m.d.Remove(m.file(number)); e != api.OK {
			m.dead = true
			return e
		}
		delete(m.sizes, number)
		delete(m.numbers, number)
	}
	return api.OK
}

func (m *model) names() []string {
	var names []string
	for _, number := range m.rising() {
		names = append(names, m.file(number))
	}
	return names
}

// tell is what is seen of a disk, and what is dirty.
func tell(b *strings.Builder, d *disk.Disk) {
	fmt.Fprintln(b, d.Off(), d.Used())
	for _, name := range d.List() {
		text, e := d.Read(name, 0, api.MaxFile)
		fmt.Fprintln(b, name, e, d.Dirty(name), len(text), text)
	}
}

// coming is what the coming Writes and Syncs of a disk answer.
func coming(b *strings.Builder, d *disk.Disk) {
	list := d.List()
	if len(list) == 0 {
		return
	}
	writes, syncs := d.Copy(), d.Copy()
	for range 8 {
		fmt.Fprintln(b, int(writes.Write(list[0], 0, "")), int(syncs.Sync(list[0])))
	}
}

// whole is all that may be told of a disk: what is safe too, as a crash without fates leaves it.
func whole(d *disk.Disk) string {
	var b strings.Builder
	tell(&b, d)
	coming(&b, d)
	c := d.Copy()
	c.Crash(nil)
	c.On()
	tell(&b, c)
	return b.String()
}

// player makes the same calls by chance: of a log on one disk, and of the model on another.
type player struct {
	*rand.Rand
	d, e *disk.Disk
	l    *Log
	m    *model
	said []string
}

func (p *player) pick(of ...int) int { return of[p.Intn(len(of))] }

func (p *player) payload() string {
	b := make([]byte, p.pick(0, 1, 47, 48, 49, 112, 113, p.Intn(300)))
	p.Read(b)
	return string(b)
}

// number is the next one, or near it, or an edge.
func (p *player) number() int64 {
	next := int64(p.Intn(3))
	if p.m != nil {
		next = p.m.next
	}
	switch p.Intn(12) {
	case 0:
		return 0
	case 1:
		return next + 1
	case 2:
		return -1
	case 3, 4, 5:
		return next - int64(p.Intn(4))
	case 6:
		return 1 << 60
	}
	return max(0, next-int64(p.Intn(12)))
}

func (p *player) file() string {
	if list := p.e.List(); len(list) > 0 && p.Intn(4) > 0 {
		return list[p.Intn(len(list))]
	}
	return []string{"log.0", "log.1", "log.2", "log.3", "log.00", "log.x", "log.9999999", "log.10000000", "lo.0"}[p.Intn(9)]
}

// bytes are such that a log may find in a file: frames of numbers that may follow, or none.
func (p *player) bytes() string {
	var b strings.Builder
	n := p.number()
	for range p.Intn(4) {
		text, _ := frame.Frame(max(n, 0), p.payload())
		b.WriteString(text)
		n++
	}
	if p.Intn(3) == 0 {
		b.WriteString(p.payload())
	}
	return b.String()
}

func (p *player) fates() []api.Fate {
	var fates []api.Fate
	for _, name := range p.e.List() {
		for _, s := range p.e.Dirty(name) {
			fates = append(fates, api.Fate{File: name, Sector: s, Kind: p.pick(0, 1, 1, 2), Bytes: p.bytes()})
		}
	}
	return fates
}

// both does one thing to both disks, and says what.
func (p *player) both(what string, do func(d *disk.Disk) api.Errno) {
	got, want := do(p.d), do(p.e)
	p.said = append(p.said, fmt.Sprintf("%s: %d", what, want))
	if got != want {
		panic("the disks aren't the same")
	}
}

// disturb is what others do to the disk, and what the world does to its power.
func (p *player) disturb() {
	file, text, n, what := p.file(), p.bytes(), p.Intn(6), p.Intn(3)
	switch p.Intn(10) {
	case 0:
		p.both(fmt.Sprintf("Write(%q, %q)", file, text), func(d *disk.Disk) api.Errno {
			size, _ := d.Size(file)
			return d.Write(file, size/(1+what), text)
		})
	case 1:
		p.both("Remove "+file, func(d *disk.Disk) api.Errno { return d.Remove(file) })
	case 2:
		p.both("Truncate "+file, func(d *disk.Disk) api.Errno { return d.Truncate(file, 64*n-what) })
	case 3, 4, 5:
		p.both(fmt.Sprint("Arm ", n, what), func(d *disk.Disk) api.Errno { d.Arm(n, what); return 0 })
	case 6, 7:
		p.both(fmt.Sprint("Fall ", n), func(d *disk.Disk) api.Errno { d.Fall(n); return 0 })
	case 8:
		fates := p.fates()
		p.both(fmt.Sprintf("Crash %#v", fates), func(d *disk.Disk) api.Errno { d.Crash(fates); return 0 })
	}
	if p.Intn(4) > 0 && p.e.Off() {
		fates := p.fatesOpen()
		p.both(fmt.Sprintf("Crash, On %#v", fates), func(d *disk.Disk) api.Errno { d.Crash(fates); d.On(); return 0 })
	}
}

// fatesOpen are fates of a disk that is off: it doesn't say what is dirty, so they name all that may be.
func (p *player) fatesOpen() []api.Fate {
	var fates []api.Fate
	for range p.Intn(20) {
		fates = append(fates, api.Fate{File: fmt.Sprint("log.", p.Intn(4)), Sector: p.Intn(8), Kind: p.pick(0, 1, 1, 2), Bytes: p.bytes()})
	}
	return fates
}

func (p *player) open() bool {
	name, segment, first := []string{"log", "log", "log", "log", "lo", "log.0", ""}[p.Intn(7)], p.pick(64, 64, 128, 200, 1000, 1048576, 63), p.number()
	l, got, e := Open(p.d, name, segment, first)
	m, want, f := modelOpen(p.e, name, segment, first)
	p.said = append(p.said, fmt.Sprintf("Open(%q, %d, %d): %d %q", name, segment, first, f, want))
	if e == api.OK && f == api.OK {
		p.l, p.m = l, m
	}
	return e == f && (l == nil) == (m == nil) && slices.Equal(got, want)
}

// play makes one call of the log and of the model: do they answer the same?
func (p *player) play() bool {
	if p.l == nil || p.Intn(8) == 0 {
		return p.open()
	}
	switch p.Intn(10) {
	case 0, 1, 2, 3, 4, 5:
		payload := p.payload()
		e, f := p.l.Append(payload), p.m.append(payload)
		p.said = append(p.said, fmt.Sprintf("Append(%d bytes): %d", len(payload), f))
		return e == f
	case 6:
		n := p.number()
		e, f := p.l.Reset(n), p.m.reset(n)
		p.said = append(p.said, fmt.Sprintf("Reset(%d): %d", n, f))
		return e == f
	}
	p.disturb()
	return true
}

// P6.1: every call answers as said, in every order, on every disk, and does to the disk what is said and nothing else.
func TestAgainstModel(t *testing.T) {
	seen := map[string]int{}
	for seed := range int64(2000) {
		p := &player{Rand: rand.New(rand.NewSource(seed))}
		capacity := p.pick(300, 1000, 4000, 1<<20)
		p.d, p.e = made(t, capacity), made(t, capacity)
		for range p.Intn(3) {
			file, text := p.file(), p.bytes()
			p.both(fmt.Sprintf("Write(%q, %q)", file, text), func(d *disk.Disk) api.Errno { return d.Write(file, 0, text) })
		}
		for range 40 {
			same := p.play()
			if same && p.l != nil {
				same = p.l.Next() == p.m.next && slices.Equal(p.l.Names(), p.m.names())
			}
			if !same || whole(p.d) != whole(p.e) {
				t.Fatalf("P6.1: seed %d: not as the model answers:\n%s", seed, strings.Join(p.said, "\n"))
			}
		}
		for _, s := range p.said {
			call, _, _ := strings.Cut(s, "(")
			_, answer, _ := strings.Cut(s, "): ")
			answer, _, _ = strings.Cut(answer, " ")
			seen[call+" "+answer]++
		}
	}
	for _, want := range []string{
		"Open 0", "Open 1", "Open 9", "Open 40", "Open 60",
		"Append 0", "Append 1", "Append 6", "Append 9", "Append 40", "Append 41", "Append 60",
		"Reset 0", "Reset 1", "Reset 5", "Reset 9", "Reset 60",
	} {
		if seen[want] == 0 {
			t.Errorf("the play never had %q: %v", want, seen)
		}
	}
}
