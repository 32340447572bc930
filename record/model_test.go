package record

import (
	"crypto/sha256"
	"encoding/binary"
	"math"
	"math/rand"
	"slices"
	"strings"

	"escrow/api"
	"escrow/shelf"
)

// The chapter's words, said once more and otherwise: a letter for each field that a kind names, in the order of the bytes, laid and read by the library's binary numbers.

// shape is a kind's letters: u Update, i Index, c Counts, l Updates, g Sig, s Secret, p Point, e Code.
func shape(kind int) (string, bool) {
	s, ok := map[int]string{1: "u", 2: "ic", 3: "ilg", 4: "isp", 5: "e", 6: "i"}[kind]
	return s, ok
}

const everyLetter = "uiclgspe"

func wide(n int64, width int) string {
	return string(binary.BigEndian.AppendUint64(nil, uint64(n))[8-width:])
}

// modelUpdate is a valid update's bytes.
func modelUpdate(u api.Update) (string, bool) {
	b := wide(int64(u.Kind), 1) + wide(u.ID, 2)
	ok := 0 <= u.ID && u.ID <= 2047
	switch u.Kind {
	case 1:
		b += wide(u.Amount, 8) + string(u.Hash[:])
		ok = ok && 1 <= u.Amount && u.Amount <= 1152921504606846976 && u.Note == ""
	case 2:
		b += string(u.Hash[:])
		ok = ok && u.Amount == 0 && u.Note == ""
	case 3:
		b += wide(int64(len(u.Note)), 2) + u.Note
		ok = ok && u.Amount == 0 && u.Hash == api.Hash{} && len(u.Note) <= 64
	default:
		ok = false
	}
	return b, ok
}

// layLetter is the bytes of one field, which it takes out of the record.
func layLetter(r *api.Record, letter rune) (string, bool) {
	was := *r
	switch letter {
	case 'u':
		r.Update = api.Update{}
		return modelUpdate(was.Update)
	case 'i':
		r.Index = 0
		return wide(was.Index, 8), 0 <= was.Index && was.Index <= 281474976710655
	case 'c':
		r.Counts = api.Counts{}
		low, high := min(was.Counts.Ours, was.Counts.Peers), max(was.Counts.Ours, was.Counts.Peers)
		return wide(int64(was.Counts.Ours), 2) + wide(int64(was.Counts.Peers), 2), 0 <= low && high <= 2048
	case 'l':
		r.Updates = nil
		ok := len(was.Updates) <= 512
		b := []byte(wide(int64(len(was.Updates)), 2))
		for _, u := range was.Updates {
			one, right := modelUpdate(u)
			b, ok = append(b, one...), ok && right
		}
		return string(b), ok
	case 'g':
		r.Sig = api.Hash{}
		return string(was.Sig[:]), true
	case 's':
		r.Secret = api.Hash{}
		return string(was.Secret[:]), true
	case 'p':
		r.Point = api.Hash{}
		return string(was.Point[:]), true
	}
	r.Code = 0
	return wide(int64(was.Code), 2), 1 <= was.Code && was.Code <= 65535
}

// modelWrite takes each field that is laid out of the record: of a valid one nothing is left then.
func modelWrite(r api.Record) (string, bool) {
	letters, ok := shape(r.Kind)
	b := wide(int64(r.Kind), 1)
	for _, letter := range letters {
		one, right := layLetter(&r, letter)
		b, ok = b+one, ok && right
	}
	r.Kind = 0
	if !ok || !sameRecord(r, api.Record{}) {
		return "", false
	}
	return b, true
}

// scan takes bytes from a text; short: there were too few.
type scan struct {
	rest  string
	short bool
}

func (s *scan) take(n int) string {
	if n > len(s.rest) {
		s.rest, s.short = "", true
		return strings.Repeat("\x00", min(n, 32))
	}
	b := s.rest[:n]
	s.rest = s.rest[n:]
	return b
}

func (s *scan) number(width int) int64 {
	return int64(binary.BigEndian.Uint64([]byte(strings.Repeat("\x00", 8-width) + s.take(width))))
}

func (s *scan) hash() api.Hash { return api.Hash([]byte(s.take(32))) }

func (s *scan) update() api.Update {
	u := api.Update{Kind: int(s.number(1)), ID: s.number(2)}
	switch u.Kind {
	case 1:
		u.Amount, u.Hash = s.number(8), s.hash()
	case 2:
		u.Hash = s.hash()
	case 3:
		u.Note = s.take(int(s.number(2)))
	}
	return u
}

func (s *scan) letter(r *api.Record, letter rune) {
	switch letter {
	case 'u':
		r.Update = s.update()
	case 'i':
		r.Index = s.number(8)
	case 'c':
		r.Counts.Ours, r.Counts.Peers = int(s.number(2)), int(s.number(2))
	case 'l':
		for range s.number(2) {
			if !s.short {
				r.Updates = append(r.Updates, s.update())
			}
		}
	case 'g':
		r.Sig = s.hash()
	case 's':
		r.Secret = s.hash()
	case 'p':
		r.Point = s.hash()
	case 'e':
		r.Code = int(s.number(2))
	}
}

// modelRead reads each field in turn: it is a record if it is valid and was all there.
func modelRead(b string) (api.Record, int, bool) {
	s := scan{rest: b}
	r := api.Record{Kind: int(s.number(1))}
	letters, _ := shape(r.Kind)
	for _, letter := range letters {
		s.letter(&r, letter)
	}
	if _, ok := modelWrite(r); !ok || s.short {
		return api.Record{}, 0, false
	}
	return r, len(b) - len(s.rest), true
}

// modelNext tells whether an update may stand behind a list, as chapter 12 says it.
func modelNext(mine, others []api.Update, u api.Update) bool {
	if _, ok := modelUpdate(u); !ok || len(mine) >= 2048 {
		return false
	}
	adds := 0
	for _, m := range mine {
		if m.Kind == 1 {
			adds++
		}
		if u.Kind != 1 && (m.Kind == 2 || m.Kind == 3) && m.ID == u.ID {
			return false
		}
	}
	if u.Kind == 1 {
		return u.ID == int64(adds)
	}
	i := slices.IndexFunc(others, func(o api.Update) bool { return o.Kind == 1 && o.ID == u.ID })
	return i >= 0 && (u.Kind == 3 || others[i].Hash == sha256.Sum256(u.Hash[:]))
}

// follows tells whether an index is the one behind another, which may be any number.
func follows(n, behind int64) bool { return behind < math.MaxInt64 && n == behind+1 }

// modelApply is what a record makes of a state.
func modelApply(s api.State, r api.Record) (api.State, bool) {
	_, ok := modelWrite(r)
	s = copyOf(s)
	switch r.Kind {
	case 1:
		ok = ok && modelNext(s.Ours, s.Peers, r.Update)
		s.Ours = append(s.Ours, r.Update)
	case 2:
		ok = ok && s.Remote == s.Acked && follows(r.Index, s.Remote)
		ok = ok && r.Counts.Peers == s.At.Peers && s.Signed.Ours <= r.Counts.Ours && r.Counts.Ours <= len(s.Ours)
		s.Remote, s.Signed, s.Behind = r.Index, r.Counts, true
	case 3:
		ok = ok && follows(r.Index, s.Local) && 0 <= s.At.Peers && s.At.Peers <= len(s.Peers)
		if !ok {
			break
		}
		all := slices.Concat(s.Peers[:s.At.Peers], r.Updates)
		for i := s.At.Peers; i < len(all); i++ {
			ok = ok && modelNext(all[:i], s.Ours, all[i])
		}
		s.Peers, s.Local, s.Sig, s.Behind = all, r.Index, r.Sig, false
		s.At = api.Counts{Ours: s.Held.Ours, Peers: len(all)}
	case 4:
		slots, e := shelf.Put(s.Shelf, r.Index, r.Secret)
		ok = ok && follows(s.Remote, s.Acked) && r.Index == s.Acked && e == api.OK
		s.Shelf, s.Acked, s.Held, s.Points = slots, s.Remote, s.Signed, [2]api.Hash{s.Points[1], r.Point}
	case 5:
		if s.Failed == 0 {
			s.Failed = r.Code
		}
	case 6:
		ok = ok && r.Index == s.Local
		s.Closed = r.Index
	}
	if !ok {
		return api.State{}, false
	}
	return s, true
}

func copyOf(s api.State) api.State {
	s.Ours, s.Peers, s.Shelf = slices.Clone(s.Ours), slices.Clone(s.Peers), slices.Clone(s.Shelf)
	return s
}

func sameRecord(r, q api.Record) bool {
	alike := slices.Equal(r.Updates, q.Updates)
	return alike && r.Kind == q.Kind && r.Update == q.Update && r.Index == q.Index && r.Counts == q.Counts && r.Sig == q.Sig && r.Secret == q.Secret && r.Point == q.Point && r.Code == q.Code
}

func sameState(s, o api.State) bool {
	if !slices.Equal(s.Ours, o.Ours) || !slices.Equal(s.Peers, o.Peers) || !slices.Equal(s.Shelf, o.Shelf) {
		return false
	}
	numbers := func(s api.State) [9]int64 {
		return [9]int64{int64(s.Side), s.Capacity, s.BaseOurs, s.BasePeers, s.Local, s.Remote, s.Acked, int64(s.Failed), s.Closed}
	}
	return numbers(s) == numbers(o) && s.At == o.At && s.Signed == o.Signed && s.Held == o.Held && s.Behind == o.Behind && s.Points == o.Points && s.Sig == o.Sig
}

// What the tests choose from.

func full(b byte) api.Hash { return api.Hash([]byte(strings.Repeat(string([]byte{b}), 32))) }

// rising is a hash in which no two bytes are alike.
func rising(from byte) api.Hash {
	var h api.Hash
	for i := range h {
		h[i] = from + byte(i)
	}
	return h
}

func counts(ours, peers int) api.Counts { return api.Counts{Ours: ours, Peers: peers} }

// preimage is that of the add with an ID.
func preimage(id int64) api.Hash { return api.Hash{9, byte(id), byte(id >> 8)} }

func add(id, amount int64) api.Update {
	p := preimage(id)
	return api.Update{Kind: 1, ID: id, Amount: amount, Hash: sha256.Sum256(p[:])}
}

func fulfill(id int64) api.Update { return api.Update{Kind: 2, ID: id, Hash: preimage(id)} }

func fail(id int64, note string) api.Update { return api.Update{Kind: 3, ID: id, Note: note} }

// adds is n of them, from ID 0 on.
func adds(n int) []api.Update {
	var l []api.Update
	for id := range int64(n) {
		l = append(l, add(id, 1))
	}
	return l
}

func kinds() []int {
	return []int{math.MinInt, -1 << 32, -255, -252, -4, -1, 0, 1, 2, 3, 4, 5, 6, 7, 8, 127, 128, 255, 256, 257, 258, 259, 260, 261, 262, 263, 65537, 1<<32 + 1, 1<<32 + 6, math.MaxInt}
}

func numbers() []int64 {
	return []int64{math.MinInt64, math.MinInt64 + 1, -1 << 48, -65536, -2, -1, 0, 1, 2, 127, 128, 255, 256, 258, 511, 512, 513, 2047, 2048, 2049, 32767, 32768, 65534, 65535, 65536, 65537, 1<<32 - 1, 1 << 32, 1<<32 + 1, 1<<48 - 2, 1<<48 - 1, 1 << 48, 1<<48 + 1, 1 << 60, math.MaxInt64 - 1, math.MaxInt64}
}

func hashes() []api.Hash {
	return []api.Hash{{}, {0: 1}, {31: 1}, {16: 128}, full(255), rising(1), rising(100)}
}

// someUpdates is valid ones and others, each kind at its edges.
func someUpdates() []api.Update {
	return []api.Update{
		{}, add(0, 7), add(258, 772), add(2047, 1<<60), add(2048, 1), add(-1, 1), add(0, 0), add(0, -1), add(0, 1<<60+1), {Kind: 1, Amount: 1, Note: "x"}, {Kind: 1, Amount: 1},
		fulfill(0), fulfill(2047), fulfill(2048), {Kind: 2}, {Kind: 2, Amount: 1}, {Kind: 2, Note: "x"}, {Kind: 2, Hash: full(255)},
		fail(5, "no"), fail(0, ""), fail(2047, strings.Repeat("\xff", 64)), fail(0, strings.Repeat("n", 65)), fail(2048, ""), {Kind: 3, Hash: api.Hash{31: 1}}, {Kind: 3, Amount: 1},
		{Kind: 4}, {Kind: -1, ID: 1}, {Kind: 257, Amount: 1}, {ID: 1}, {Amount: 1}, {Hash: api.Hash{31: 1}}, {Note: "x"},
	}
}

// The lists that the records are bent by: short ones, and the longest that there may be with longer ones.
var (
	shortLists = someLists()
	longLists  = [][]api.Update{adds(511), adds(512), adds(513), repeated(fail(1, strings.Repeat("n", 64)), 512), repeated(fail(1, ""), 513), repeated(fail(1, ""), 65536), append(adds(511), api.Update{Kind: 9})}
)

func someLists() [][]api.Update {
	l := [][]api.Update{nil, {}, {add(0, 7), fail(1, "")}, {fulfill(3), fulfill(3), {Kind: 9}}}
	for _, u := range someUpdates() {
		l = append(l, []api.Update{u}, []api.Update{add(0, 1), u, fail(0, "no")})
	}
	return l
}

func repeated(u api.Update, n int) []api.Update { return slices.Repeat([]api.Update{u}, n) }

// plain is one valid record of each kind, with every field of its kind other than zero, and no two alike.
func plain() []api.Record {
	return []api.Record{
		{Kind: 1, Update: add(258, 772)},
		{Kind: 2, Index: 1286, Counts: counts(258, 772)},
		{Kind: 3, Index: 1286, Updates: []api.Update{add(258, 772), fulfill(259), fail(260, "no")}, Sig: rising(1)},
		{Kind: 4, Index: 1286, Secret: rising(1), Point: rising(100)},
		{Kind: 5, Code: 258},
		{Kind: 6, Index: 1286},
	}
}

// bent is a record with one field changed, in all ways; of the lists the shorter ones.
func bent(r api.Record, do func(r api.Record)) {
	for _, k := range kinds() {
		x := r
		x.Kind = k
		do(x)
	}
	for _, n := range numbers() {
		x, y, z, c := r, r, r, r
		x.Index, y.Counts.Ours, z.Counts.Peers, c.Code = n, int(n), int(n), int(n)
		do(x)
		do(y)
		do(z)
		do(c)
	}
	for _, h := range hashes() {
		x, y, z := r, r, r
		x.Sig, y.Secret, z.Point = h, h, h
		do(x)
		do(y)
		do(z)
	}
	for _, u := range someUpdates() {
		x := r
		x.Update = u
		do(x)
	}
	for _, l := range shortLists {
		x := r
		x.Updates = l
		do(x)
	}
}

// withLists is a record with each of the long lists.
func withLists(r api.Record, do func(r api.Record)) {
	for _, l := range longLists {
		r.Updates = l
		do(r)
	}
}

// every is the plain records and the zero record with two fields bent, each kind's smallest with one, and all of them with a long list.
func every(do func(r api.Record)) {
	for _, r := range append(plain(), api.Record{}) {
		bent(r, func(r api.Record) { bent(r, do) })
		bent(api.Record{Kind: r.Kind}, do)
		withLists(r, do)
		withLists(api.Record{Kind: r.Kind}, do)
	}
}

// valid is those of the plain and smallest records, with one field bent, that are valid; and the greatest.
func valid() []api.Record {
	var l []api.Record
	keep := func(r api.Record) {
		if _, ok := modelWrite(r); ok {
			l = append(l, r)
		}
	}
	for _, r := range plain() {
		bent(r, keep)
		bent(api.Record{Kind: r.Kind}, keep)
		withLists(r, keep)
	}
	return append(l,
		api.Record{Kind: 2, Index: 1<<48 - 1, Counts: counts(2048, 2048)},
		api.Record{Kind: 3, Index: 1<<48 - 1, Updates: repeated(fail(2047, strings.Repeat("\xff", 64)), 512), Sig: full(255)},
		api.Record{Kind: 4, Index: 1<<48 - 1, Secret: full(255), Point: full(255)})
}

func textByChance(r *rand.Rand, n int) string {
	b := make([]byte, n)
	r.Read(b)
	return string(b)
}

func hashByChance(r *rand.Rand) api.Hash { return api.Hash([]byte(textByChance(r, 32))) }

// validUpdate is any valid update.
func validUpdate(r *rand.Rand) api.Update {
	id := r.Int63n(2048)
	switch r.Intn(3) {
	case 0:
		return api.Update{Kind: 1, ID: id, Amount: 1 + r.Int63n(1<<60), Hash: hashByChance(r)}
	case 1:
		return api.Update{Kind: 2, ID: id, Hash: hashByChance(r)}
	}
	return fail(id, textByChance(r, r.Intn(65)))
}

// validByChance is any valid record.
func validByChance(r *rand.Rand) api.Record {
	x := api.Record{Kind: 1 + r.Intn(6)}
	letters, _ := shape(x.Kind)
	for _, letter := range letters {
		switch letter {
		case 'u':
			x.Update = validUpdate(r)
		case 'i':
			x.Index = r.Int63n(1 << (1 + r.Intn(48)))
		case 'c':
			x.Counts = counts(r.Intn(2049), r.Intn(2049))
		case 'l':
			for range r.Intn(12) {
				x.Updates = append(x.Updates, validUpdate(r))
			}
		case 'g':
			x.Sig = hashByChance(r)
		case 's':
			x.Secret = hashByChance(r)
		case 'p':
			x.Point = hashByChance(r)
		case 'e':
			x.Code = 1 + r.Intn(65535)
		}
	}
	return x
}
