package msg

import (
	"encoding/binary"
	"math"
	"math/rand"
	"strings"

	"escrow/api"
)

// The chapter's table, said once more and otherwise: a letter for each field that a kind names, in the order of the bytes, laid and read by the library's binary numbers.

// shape is a kind's letters: d ID, a Amount, i Index, n Next, h Hash, s Secret, t Note.
func shape(kind int) (string, bool) {
	s, ok := map[int]string{1: "dah", 2: "dh", 3: "dt", 4: "ih", 5: "ish", 6: "ins", 7: "i"}[kind]
	return s, ok
}

// number is the field that a letter stands for, how many bytes it has, and what it may be.
func number(m *api.Message, letter rune) (field *int64, width int, least, most int64) {
	switch letter {
	case 'd':
		return &m.ID, 2, 0, 2047
	case 'a':
		return &m.Amount, 8, 1, 1152921504606846976
	case 'i':
		return &m.Index, 8, 0, 281474976710655
	case 'n':
		return &m.Next, 8, 0, 281474976710655
	}
	return nil, 0, 0, 0
}

func hashField(m *api.Message, letter rune) *api.Hash {
	switch letter {
	case 'h':
		return &m.Hash
	case 's':
		return &m.Secret
	}
	return nil
}

// modelWrite takes each field that is laid out of the message: of a valid one nothing is left then.
func modelWrite(m api.Message) (string, bool) {
	letters, ok := shape(m.Kind)
	if !ok {
		return "", false
	}
	b := []byte{byte(m.Kind)}
	for _, letter := range letters {
		if field, width, least, most := number(&m, letter); field != nil {
			if *field < least || *field > most {
				return "", false
			}
			b = append(b, binary.BigEndian.AppendUint64(nil, uint64(*field))[8-width:]...)
			*field = 0
		} else if field := hashField(&m, letter); field != nil {
			b = append(b, field[:]...)
			*field = api.Hash{}
		} else if len(m.Note) <= 64 {
			b = append(b, 0, byte(len(m.Note)))
			b = append(b, m.Note...)
			m.Note = ""
		}
	}
	m.Kind = 0
	return string(b), m == api.Message{}
}

// modelRead asks for each field's bytes in turn.
func modelRead(b string) (api.Message, bool) {
	if b == "" {
		return api.Message{}, false
	}
	letters, ok := shape(int(b[0]))
	m := api.Message{Kind: int(b[0])}
	b = b[1:]
	for _, letter := range letters {
		field, width, least, most := number(&m, letter)
		switch {
		case field != nil && len(b) >= width:
			*field = int64(binary.BigEndian.Uint64([]byte(strings.Repeat("\x00", 8-width) + b[:width])))
			ok = ok && least <= *field && *field <= most
			b = b[width:]
		case letter == 't' && len(b) >= 2 && b[0] == 0 && b[1] <= 64 && len(b) == 2+int(b[1]):
			m.Note, b = b[2:], ""
		case hashField(&m, letter) != nil && len(b) >= 32:
			*hashField(&m, letter) = api.Hash([]byte(b[:32]))
			b = b[32:]
		default:
			ok = false
		}
	}
	if !ok || b != "" {
		return api.Message{}, false
	}
	return m, true
}

// What the tests choose from.

func full(b byte) api.Hash { return api.Hash([]byte(strings.Repeat(string([]byte{b}), 32))) }

// rising is a hash in which no two bytes are alike.
func rising(from byte) api.Hash {
	var h api.Hash
	for i := range h {
		h[i] = from + byte(i)
	}
	return h
}

func kinds() []int {
	return []int{math.MinInt, -1 << 32, -252, -249, -4, -1, 0, 1, 2, 3, 4, 5, 6, 7, 8, 9, 127, 128, 255, 256, 257, 258, 259, 260, 261, 262, 263, 264, 65540, 1<<32 + 1, 1<<32 + 4, 1<<32 + 7, math.MaxInt}
}

func numbers() []int64 {
	return []int64{math.MinInt64, math.MinInt64 + 1, -1 << 48, -65536, -2, -1, 0, 1, 2, 127, 128, 255, 256, 258, 2046, 2047, 2048, 2049, 32767, 32768, 65535, 65536, 65537, 1<<32 - 1, 1 << 32, 1<<32 + 1, 1<<48 - 2, 1<<48 - 1, 1 << 48, 1<<48 + 1, 1<<60 - 1, 1 << 60, 1<<60 + 1, math.MaxInt64 - 1, math.MaxInt64}
}

func hashes() []api.Hash {
	return []api.Hash{{}, {0: 1}, {31: 1}, {16: 128}, full(255), rising(1), rising(100)}
}

func notes() []string {
	return []string{"", "\x00", "n", "no", "\x80", "\xff", "h\u00e9llo \u2603", "\xc3\x28", "\xed\xa0\x80", "\x00\x02no", strings.Repeat("\x00", 63), strings.Repeat("a", 64), strings.Repeat("\xff", 64), strings.Repeat("\u00e9", 32), strings.Repeat("a", 65), strings.Repeat("\u00e9", 33), strings.Repeat("b", 256), strings.Repeat("b", 256+64), strings.Repeat("b", 65535), strings.Repeat("b", 65536), strings.Repeat("b", 65536+2)}
}

// plain is one valid message of each kind, with every field of its kind other than zero, and no two alike.
func plain() []api.Message {
	return []api.Message{
		{Kind: 1, ID: 258, Amount: 772, Hash: rising(1)},
		{Kind: 2, ID: 258, Hash: rising(1)},
		{Kind: 3, ID: 258, Note: "no"},
		{Kind: 4, Index: 1286, Hash: rising(1)},
		{Kind: 5, Index: 1286, Secret: rising(100), Hash: rising(1)},
		{Kind: 6, Index: 1286, Next: 1800, Secret: rising(100)},
		{Kind: 7, Index: 1286},
	}
}

// bent is a message with one field changed, in all ways.
func bent(m api.Message, do func(m api.Message)) {
	for _, k := range kinds() {
		x := m
		x.Kind = k
		do(x)
	}
	for _, n := range numbers() {
		for _, letter := range "dain" {
			x := m
			field, _, _, _ := number(&x, letter)
			*field = n
			do(x)
		}
	}
	for _, h := range hashes() {
		for _, letter := range "hs" {
			x := m
			*hashField(&x, letter) = h
			do(x)
		}
	}
	for _, n := range notes() {
		x := m
		x.Note = n
		do(x)
	}
}

// every is each kind with few values of each field, all together, and each kind's plain message and its smallest with one field bent and with two.
func every(do func(m api.Message)) {
	for _, k := range kinds() {
		for _, id := range []int64{-1, 0, 1, 2048} {
			for _, a := range []int64{-1, 0, 1, 1<<60 + 1} {
				for _, i := range []int64{-1, 0, 1, 1<<48 - 1, 1 << 48} {
					for _, n := range []int64{-1, 0, 1, 1<<48 - 1, 1 << 48} {
						for _, h := range []api.Hash{{}, {31: 1}} {
							for _, s := range []api.Hash{{}, {31: 1}} {
								for _, t := range []string{"", "n"} {
									do(api.Message{Kind: k, ID: id, Amount: a, Index: i, Next: n, Hash: h, Secret: s, Note: t})
								}
							}
						}
					}
				}
			}
		}
	}
	for _, m := range plain() {
		bent(m, func(m api.Message) { bent(m, do) })
		bent(api.Message{Kind: m.Kind}, do)
	}
}

// valid is those of every that are valid, each once.
func valid() []api.Message {
	var l []api.Message
	seen := map[api.Message]bool{}
	every(func(m api.Message) {
		if _, ok := modelWrite(m); ok && !seen[m] {
			seen[m] = true
			l = append(l, m)
		}
	})
	return l
}

func textByChance(r *rand.Rand, n int) string {
	b := make([]byte, n)
	r.Read(b)
	return string(b)
}

// byChance is a message with the fields that its kind names, most times right, and now and then one more.
func byChance(r *rand.Rand) api.Message {
	m := api.Message{Kind: r.Intn(9)}
	letters, _ := shape(m.Kind)
	if r.Intn(10) == 0 {
		letters += string("dainhst"[r.Intn(7)])
	}
	for _, letter := range letters {
		field, _, _, most := number(&m, letter)
		switch {
		case field != nil && r.Intn(30) == 0:
			*field = int64(r.Uint64())
		case field != nil:
			*field = r.Int63n(most) + 1
		case letter == 't':
			m.Note = textByChance(r, r.Intn(66))
		default:
			*hashField(&m, letter) = api.Hash([]byte(textByChance(r, 32)))
		}
	}
	return m
}
