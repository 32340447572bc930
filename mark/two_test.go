package mark

import (
	"fmt"
	"math/rand"
	"testing"

	"escrow/api"
	"escrow/disk"
)

// beside is two marks on one disk, and each of them on a disk of its own.
type beside struct {
	*rand.Rand
	t      *testing.T
	shared *disk.Disk
	alone  map[string]*disk.Disk
	marks  map[string][2]*Mark // on the shared disk, and alone
}

var names = []string{"m", "n"}

func (b *beside) fates() []api.Fate {
	var fates []api.Fate
	for _, file := range []string{"m", "m.tmp", "n", "n.tmp"} {
		for s := range 2 {
			text := []string{"junk", of(int64(b.Intn(50))), ""}[b.Intn(3)]
			fates = append(fates, api.Fate{File: file, Sector: s, Kind: b.Intn(3), Bytes: text})
		}
	}
	return fates
}

// call is one call of a mark, on both of its disks: what does each answer?
func (b *beside) call(name string) [2]api.Errno {
	arm, what, fall := b.Intn(6), b.Intn(3), b.Intn(8)
	n, opens := int64(b.Intn(50)), b.Intn(3) == 0
	marks := b.marks[name]
	var errs [2]api.Errno
	for i, d := range []*disk.Disk{b.shared, b.alone[name]} {
		d.Arm(arm, what)
		d.Fall(fall)
		if opens || marks[i] == nil {
			var m *Mark
			m, errs[i] = Open(d, name)
			if m != nil {
				marks[i] = m
			}
		} else {
			errs[i] = marks[i].Raise(n)
		}
		d.Arm(0, 0)
		d.Fall(0)
	}
	b.marks[name] = marks
	return errs
}

// crash is one for all three disks: the power is the same.
func (b *beside) crash() {
	fates := b.fates()
	for _, d := range []*disk.Disk{b.shared, b.alone["m"], b.alone["n"]} {
		d.Crash(fates)
		d.On()
	}
}

// alike: each mark, its file and its spare are as they are where the other mark is not.
func (b *beside) alike() {
	for _, name := range names {
		marks := b.marks[name]
		if marks[0] != nil && marks[0].Value() != marks[1].Value() {
			b.t.Fatalf("P19.4: %s is %d, alone %d", name, marks[0].Value(), marks[1].Value())
		}
		for _, file := range []string{name, name + ".tmp"} {
			if got, want := told(b.shared, file), told(b.alone[name], file); got != want {
				b.t.Fatalf("P19.4: %s is %q, alone %q", file, got, want)
			}
		}
	}
}

func told(d *disk.Disk, file string) string {
	text, e := d.Read(file, 0, 1000)
	return fmt.Sprintf("%q %d %v", text, int(e), d.Dirty(file))
}

// P19.4: two marks in two files of one disk: each does what it does alone.
func TestTwo(t *testing.T) {
	seen := map[api.Errno]int{}
	for seed := range int64(500) {
		b := &beside{Rand: rand.New(rand.NewSource(seed)), t: t, shared: made(t, 1000), marks: map[string][2]*Mark{}}
		b.alone = map[string]*disk.Disk{"m": made(t, 1000), "n": made(t, 1000)}
		for range 100 {
			errs := b.call(names[b.Intn(2)])
			if errs[0] != errs[1] {
				t.Fatalf("P19.4: seed %d: a call answers %d, alone %d", seed, errs[0], errs[1])
			}
			if errs[0] == api.ErrOff || b.Intn(20) == 0 {
				b.crash()
			}
			b.alike()
			seen[errs[0]]++
		}
	}
	for _, e := range []api.Errno{api.OK, api.ErrOff, api.ErrDisk} {
		if seen[e] < 100 {
			t.Errorf("the calls are one-sided: %v", seen)
		}
	}
}
