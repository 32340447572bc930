package update

import (
	"crypto/sha256"
	"encoding/binary"
	"math"
	"math/rand"
	"slices"
	"strings"

	"escrow/api"
)

// The chapter, said once more and otherwise: bytes by the library's binary numbers, hashes by the library's SHA-256, lists gone through by place.

// field is what a kind says of one field of an update.
type field struct {
	least, most int64
	hash        bool
	note        int
}

func fields() map[int]field {
	return map[int]field{
		1: {least: 1, most: 1152921504606846976, hash: true},
		2: {hash: true},
		3: {note: 64},
	}
}

func modelValid(u api.Update) bool {
	f, ok := fields()[u.Kind]
	right := ok && u.ID > -1 && u.ID < 2048
	right = right && f.least <= u.Amount && u.Amount <= f.most
	right = right && (f.hash || u.Hash == api.Hash{})
	return right && len(u.Note) <= f.note
}

// laid is the bytes of an update, valid or not, as far as its fields fit.
func laid(u api.Update) string {
	b := binary.BigEndian.AppendUint16([]byte{byte(u.Kind)}, uint16(u.ID))
	switch u.Kind {
	case 1:
		b = append(binary.BigEndian.AppendUint64(b, uint64(u.Amount)), u.Hash[:]...)
	case 2:
		b = append(b, u.Hash[:]...)
	case 3:
		b = append(binary.BigEndian.AppendUint16(b, uint16(len(u.Note))), u.Note...)
	}
	return string(b)
}

// modelLen is how many bytes the update has that b begins with: more than b has, if its note's length isn't there.
func modelLen(b string) int {
	switch {
	case b[0] == 1:
		return 43
	case b[0] == 2:
		return 35
	case len(b) < 5:
		return 5
	case int(b[3])<<8|int(b[4]) > 64:
		return 5
	}
	return 5 + int(b[3])<<8 + int(b[4])
}

func modelRead(b string) (api.Update, int, api.Errno) {
	switch {
	case b == "":
		return api.Update{}, 0, 2
	case b[0] < 1 || b[0] > 3:
		return api.Update{}, 0, 120
	case len(b) < modelLen(b):
		return api.Update{}, 0, 2
	}
	n := modelLen(b)
	u := api.Update{Kind: int(b[0]), ID: int64(binary.BigEndian.Uint16([]byte(b[1:3])))}
	switch u.Kind {
	case 1:
		u.Amount, u.Hash = int64(binary.BigEndian.Uint64([]byte(b[3:11]))), api.Hash([]byte(b[11:43]))
	case 2:
		u.Hash = api.Hash([]byte(b[3:35]))
	case 3:
		u.Note = b[5:n]
	}
	if !modelValid(u) || u.Kind == 3 && n != 5+int(b[3])<<8+int(b[4]) {
		return api.Update{}, 0, 120
	}
	return u, n, 0
}

// modelFirst is the first of some kinds with an ID.
func modelFirst(l []api.Update, id int64, kinds ...int) (api.Update, bool) {
	at := slices.IndexFunc(l, func(u api.Update) bool { return u.ID == id && slices.Contains(kinds, u.Kind) })
	if at < 0 {
		return api.Update{}, false
	}
	return l[at], true
}

func sumOf(p api.Hash) api.Hash { return sha256.Sum256(p[:]) }

func modelNext(mine, others []api.Update, u api.Update) api.Errno {
	if len(mine) > 2047 {
		return 6
	}
	if !modelValid(u) {
		return 120
	}
	if u.Kind == 1 {
		for _, m := range mine {
			if m.Kind == 1 {
				u.ID--
			}
		}
		if u.ID != 0 {
			return 120
		}
		return 0
	}
	a, ok := modelFirst(others, u.ID, 1)
	_, twice := modelFirst(mine, u.ID, 2, 3)
	if !ok || twice || u.Kind == 2 && sumOf(u.Hash) != a.Hash {
		return 120
	}
	return 0
}

// What the tests choose from.

func full(b byte) api.Hash { return api.Hash([]byte(strings.Repeat(string([]byte{b}), 32))) }

func kinds() []int {
	return []int{math.MinInt, -255, -1, 0, 1, 2, 3, 4, 5, 255, 256, 257, 258, 259, 65537, 1 << 32, 1<<32 + 1, math.MaxInt}
}

func ids() []int64 {
	return []int64{math.MinInt64, -65536, -1, 0, 1, 255, 256, 2046, 2047, 2048, 2049, 65535, 65536, 65537, 1 << 32, math.MaxInt64}
}

func amounts() []int64 {
	return []int64{math.MinInt64, -1, 0, 1, 2, 258, 1<<60 - 1, 1 << 60, 1<<60 + 1, math.MaxInt64}
}

func hashes() []api.Hash {
	return []api.Hash{{}, {0: 1}, {31: 1}, full(255), full(1), sumOf(full(7))}
}

func notes() []string {
	return []string{"", "\x00", "n", "no", "\x80", "\xff", "h\u00e9llo \u2603", "\xc3\x28", "\xed\xa0\x80", strings.Repeat("\x00", 63), strings.Repeat("a", 64), strings.Repeat("\xff", 64), strings.Repeat("\u00e9", 32), strings.Repeat("a", 65), strings.Repeat("\x00", 65), strings.Repeat("\u00e9", 33), strings.Repeat("b", 255), strings.Repeat("b", 256), strings.Repeat("b", 65536)}
}

// every is each kind with each ID, amount, hash and note.
func every(do func(u api.Update)) {
	for _, k := range kinds() {
		for _, id := range ids() {
			for _, a := range amounts() {
				for _, h := range hashes() {
					for _, n := range notes() {
						do(api.Update{Kind: k, ID: id, Amount: a, Hash: h, Note: n})
					}
				}
			}
		}
	}
}

// valid is those of every that are valid.
func valid() []api.Update {
	var l []api.Update
	every(func(u api.Update) {
		if modelValid(u) {
			l = append(l, u)
		}
	})
	return l
}

// byChance is an update of which each field is most times right for its kind, and has few values.
func byChance(r *rand.Rand, ids int64) api.Update {
	u := api.Update{Kind: r.Intn(5), ID: r.Int63n(ids)}
	if u.Kind == 1 || r.Intn(20) == 0 {
		u.Amount = 1 + r.Int63n(1<<60)
	}
	if u.Kind < 3 || r.Intn(20) == 0 {
		u.Hash = full(byte(r.Intn(3)))
	}
	if u.Kind == 1 {
		u.Hash = sumOf(u.Hash)
	}
	if u.Kind == 3 || r.Intn(20) == 0 {
		b := make([]byte, r.Intn(66))
		r.Read(b)
		u.Note = string(b)
	}
	return u
}

func listByChance(r *rand.Rand, n int, ids int64) []api.Update {
	l := make([]api.Update, r.Intn(n+1))
	for i := range l {
		l[i] = byChance(r, ids)
	}
	return l
}
