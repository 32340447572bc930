package script

import (
	"math/rand"
	"slices"
	"strings"
	"testing"

	"escrow/api"
	"escrow/node"
)

// P25.2: what Print tells Parse reads as the same commands, and nothing else.
func TestThereAndBack(t *testing.T) {
	r := rand.New(rand.NewSource(253))
	for range 20000 {
		l := commandsByChance(r, 6)
		text, e := Print(l)
		if e != api.OK {
			t.Fatalf("P25.2: Print(%+v) tells %d", l, e)
		}
		want := make([]Command, len(l))
		for i, c := range l {
			want[i] = bare(c)
		}
		reads(t, "P25.2", text, want...)
		prints(t, "P25.2", text, want...)
	}
}

// loosened: the text with some bytes of its quoted texts in another form.
func loosened(r *rand.Rand, text string) string {
	var b strings.Builder
	inside := false
	for i := 0; i < len(text); i++ {
		switch c := text[i]; {
		case c == '"':
			inside = !inside
			b.WriteByte(c)
		case c == '\\' && text[i+1] == 'x':
			b.WriteString(text[i : i+4])
			i += 3
		case c == '\\':
			b.WriteString([]string{text[i : i+2], "\\x" + digitsOf(api.Hash{text[i+1]})[:2]}[r.Intn(2)])
			i++
		case inside && r.Intn(3) == 0:
			b.WriteString("\\x" + digitsOf(api.Hash{c})[:2])
		default:
			b.WriteByte(c)
		}
	}
	return b.String()
}

// P25.2: of what Parse reads Print tells a text that Parse reads as the same: the shortest there is, as its bytes stand for themselves wherever they may.
func TestOwnForm(t *testing.T) {
	r := rand.New(rand.NewSource(254))
	unlike := 0
	for range 5000 {
		own, e := Print(commandsByChance(r, 5))
		if e != api.OK {
			t.Fatalf("P25.2: Print tells %d", e)
		}
		loose := scattered(r, loosened(r, own))
		l := mustRead(t, loose)
		prints(t, "P25.2", own, l...)
		reads(t, "P25.2", own, l...)
		if strings.TrimSuffix(loose, "\n") != strings.TrimSuffix(own, "\n") {
			unlike++
		}
	}
	if unlike < 2000 {
		t.Errorf("P25.2: only %d had another form", unlike)
	}
}

// P25.2: a text that is as long as may be without a byte 10 at its end has no own form; with it at its end it has.
func TestOwnFormThatIsTooLong(t *testing.T) {
	text := filled(api.MaxScript)
	l := mustRead(t, text)
	printRefused(t, "P25.2", api.ErrLong, l...)
	text = filled(api.MaxScript-1) + "\n"
	prints(t, "P25.2", text, mustRead(t, text)...)
}

// filled: lines of so many bytes in all, the last one without a byte 10.
func filled(n int) string {
	head := `step 0 take "`
	var text strings.Builder
	for n-text.Len() > api.MaxLine {
		text.WriteString(head + strings.Repeat("x", 2000-len(head)-2) + "\"\n")
	}
	text.WriteString(head + strings.Repeat("y", n-text.Len()-len(head)-1) + "\"")
	return text.String()
}

// scattered: the text with lines that say nothing between its own, and perhaps without its last byte 10.
func scattered(r *rand.Rand, text string) string {
	nothing := []string{"\n", "#\n", "# joined\n", "#\x00\xff\r\"\\\n", "#" + strings.Repeat("#", 300) + "\n"}
	var b strings.Builder
	for _, line := range strings.SplitAfter(text, "\n") {
		for r.Intn(3) == 0 {
			b.WriteString(nothing[r.Intn(len(nothing))])
		}
		b.WriteString(line)
	}
	if r.Intn(3) == 0 {
		return strings.TrimSuffix(b.String(), "\n")
	}
	if r.Intn(3) == 0 {
		b.WriteString("#end")
	}
	return b.String()
}

// P25.3: lines that say nothing change nothing.
func TestLinesThatSayNothing(t *testing.T) {
	r := rand.New(rand.NewSource(255))
	for range 3000 {
		text, _ := Print(commandsByChance(r, 5))
		want := mustRead(t, text)
		reads(t, "P25.3", scattered(r, text), want...)
		bad := text + "no\n"
		readRefused(t, "P25.3", scattered(r, bad), api.ErrScript)
	}
	for _, s := range samples() {
		for _, nothing := range []string{"\n", "#\n", "#" + s.line + "\n", "\n\n\n", "##\n\n# \n"} {
			reads(t, "P25.3", nothing+s.line+"\n"+nothing+s.line, s.want, s.want)
			reads(t, "P25.3", s.line+"\n"+nothing+nothing, s.want)
		}
		reads(t, "P25.3", "#"+s.line)
		readRefused(t, "P25.3", s.line+" #", api.ErrScript)
		readRefused(t, "P25.3", s.line+"#", api.ErrScript)
		readRefused(t, "P25.3", "join\n "+"#"+s.line, api.ErrScript)
	}
}

// P25.3: two texts, one behind the other.
func TestTwoTexts(t *testing.T) {
	r := rand.New(rand.NewSource(256))
	var texts []string
	for range 60 {
		text, _ := Print(commandsByChance(r, 3))
		texts = append(texts, scattered(r, loosened(r, text)))
	}
	texts = append(texts, "", "\n", "#", "#\n", "joined", "joined\n", "\n\njoin\n#\n")
	joined := 0
	for _, a := range texts {
		for _, b := range texts {
			if a != "" && !strings.HasSuffix(a, "\n") {
				continue
			}
			joined++
			reads(t, "P25.3", a+b, slices.Concat(mustRead(t, a), mustRead(t, b))...)
		}
	}
	if joined < 1000 {
		t.Errorf("P25.3: only %d", joined)
	}
	// Without the byte 10 the two lines are one.
	readRefused(t, "P25.3", "joined"+"joined", api.ErrScript)
	reads(t, "P25.3", "join"+"ed", Command{Kind: Joined})
	reads(t, "P25.3", "#"+"joined")
}

// P25.4: of each byte, each two bytes, and texts by chance.
func TestQuote(t *testing.T) {
	all := allBytes()
	texts := []string{"", all, all + all, `\x41`, `\\`, `"`, "é", "joined\n#", `" lost "`, strings.Repeat("\\", 500), strings.Repeat("\"", 500)}
	for a := range 256 {
		texts = append(texts, all[a:a+1])
		for b := range 256 {
			texts = append(texts, string([]byte{byte(a), byte(b)}))
		}
	}
	r := rand.New(rand.NewSource(257))
	for range 5000 {
		texts = append(texts, textByChance(r, 30))
	}
	seen := map[string]string{}
	for _, s := range texts {
		q := Quote(s)
		if q != modelQuote(s) {
			t.Errorf("P25.4: Quote(%q) = %s, want %s", s, q, modelQuote(s))
		}
		if i := strings.IndexFunc(q, func(c rune) bool { return c < 32 || c > 126 }); i >= 0 {
			t.Errorf("P25.4: Quote(%q) = %q has a byte that isn't plain", s, q)
		}
		if other, twice := seen[q]; twice && other != s {
			t.Errorf("P25.4: %q and %q have one form", s, other)
		}
		seen[q] = s
		reads(t, "P25.4", "step 0 take "+q, stepOf(0, node.Step{Kind: node.Take, Bytes: s}))
	}
	for s, want := range map[string]string{"": `""`, "a b~": `"a b~"`, `"\`: `"\"\\"`, "\x00\n\x1f\x20\x7e\x7f\x80\xff": `"\x00\x0a\x1f ~\x7f\x80\xff"`, "#'": `"#'"`} {
		if got := Quote(s); got != want {
			t.Errorf("P25.4: Quote(%q) = %s, want %s", s, got, want)
		}
	}
}

// P25.4: a text that no line has room for is quoted all the same.
func TestQuoteOfLongTexts(t *testing.T) {
	for _, n := range []int{4096, 65536, 65537, 1 << 22} {
		if got := Quote(strings.Repeat("\xab", n)); got != `"`+strings.Repeat(`\xab`, n)+`"` {
			t.Errorf("P25.4: Quote of %d bytes tells %s", n, shown(got))
		}
	}
}

// P25.4: hashes in digits, and back.
func TestHex(t *testing.T) {
	r := rand.New(rand.NewSource(258))
	hashes := []api.Hash{{}, rising(0), rising(128), {0: 1, 1: 0xfe, 31: 0xa0}}
	for i := range 256 {
		var bit, whole api.Hash
		bit[i/8], whole[i%32] = 1<<(i%8), byte(i)
		hashes = append(hashes, bit, whole, hashByChance(r))
	}
	for _, h := range hashes {
		text := Hex(h)
		if text != digitsOf(h) {
			t.Errorf("P25.4: Hex(%x) = %s", h[:], text)
		}
		reads(t, "P25.4", "step 0 offer 1 "+text, stepOf(0, node.Step{Kind: node.Offer, Amount: 1, Hash: h}))
	}
	if got := Hex(api.Hash{0: 0x01, 1: 0xfe, 31: 0xa0}); got != "01fe"+zeros[:58]+"a0" {
		t.Errorf("P25.4: Hex = %s", got)
	}
}
