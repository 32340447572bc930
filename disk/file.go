package disk

import (
	"maps"
	"slices"

	"escrow/api"
)

// file: in a sector that isn't dirty all that is seen is safe, byte for byte; sync and crash lean on that.
type file struct {
	seen, safe []byte
	dirty      map[int]struct{}
}

func newFile() *file {
	return &file{dirty: map[int]struct{}{}}
}

func (f *file) copy() *file {
	return &file{seen: slices.Clone(f.seen), safe: slices.Clone(f.safe), dirty: maps.Clone(f.dirty)}
}

func (f *file) write(at int, text string) {
	if text == "" {
		return // no byte is laid, so the sector of that place doesn't become dirty
	}
	over := copy(f.seen[at:], text)
	f.seen = append(f.seen, text[over:]...)
	last := (at + len(text) - 1) / api.Sector
	for s := at / api.Sector; s <= last; s++ {
		f.dirty[s] = struct{}{}
	}
}

func (f *file) sync() {
	f.safe = append(f.safe, f.seen[len(f.safe):]...)
	for s := range f.dirty {
		copy(sector(f.safe, s), sector(f.seen, s))
	}
	f.dirty = map[int]struct{}{}
}

func (f *file) truncate(size int) {
	f.seen = f.seen[:size]
	f.safe = f.safe[:min(size, len(f.safe))]
	for s := range f.dirty {
		if s*api.Sector >= size {
			delete(f.dirty, s)
		}
	}
}

func (f *file) dirtySectors() []int {
	return slices.Sorted(maps.Keys(f.dirty))
}

// crash: what is left is the safe bytes, and over them what the fates say of dirty sectors.
func (f *file) crash(fates map[int]api.Fate) {
	left := make([]byte, f.lengthBehind(fates))
	copy(left, f.safe)
	for s := range f.dirty {
		switch fate := fates[s]; fate.Kind {
		case api.FateKept:
			copy(sector(left, s), sector(f.seen, s))
		case api.FateReplace:
			replaced := sector(left, s)
			clear(replaced)
			copy(replaced, fate.Bytes)
		}
	}
	*f = file{seen: left, safe: slices.Clone(left), dirty: map[int]struct{}{}}
}

// lengthBehind: how long the file is behind a crash.
func (f *file) lengthBehind(fates map[int]api.Fate) int {
	length := len(f.safe)
	for s := range f.dirty {
		if kind := fates[s].Kind; kind == api.FateKept || kind == api.FateReplace {
			length = max(length, s*api.Sector+len(sector(f.seen, s)))
		}
	}
	return length
}

// sector: the piece of the bytes that is sector number s, as far as they go.
func sector(bytes []byte, s int) []byte {
	from := min(s*api.Sector, len(bytes))
	return bytes[from:min(from+api.Sector, len(bytes))]
}
