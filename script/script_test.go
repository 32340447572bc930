package script

import (
	"math"
	"math/rand"
	"strings"
	"testing"

	"escrow/api"
	"escrow/node"
	"escrow/pair"
)

// The kinds have the chapter's numbers.
func TestKinds(t *testing.T) {
	if [...]int{World, Move, Quiet, State, Ledger, Mark, Pipe, Files, Joined} != [...]int{1, 2, 3, 4, 5, 6, 7, 8, 9} {
		t.Errorf("P25.1: the kinds have other numbers")
	}
}

func TestExample1(t *testing.T) {
	reads(t, "P25.1", "deliver 1\njoined", moveOf(pair.Deliver, 1), Command{Kind: Joined})
	for _, text := range []string{"", "#x", "\n", "#x\n", "#x\n\n\n", "\n\n#x", "#", "#\n#"} {
		reads(t, "P25.1", text)
	}
}

func TestExample2(t *testing.T) {
	for _, text := range []string{
		"deliver", "deliver 01", "deliver -0", "deliver  1", "deliver 1 ", " deliver 1", "deliver 9223372036854775808", "delivers 1",
		"step", "step 0", "step 0 sing", "step 0 offer 5", "step 0 offer 5 " + zeros[1:], "step 0 offer 5 " + zeros[1:] + "A", "step 0 offer 5 \"" + zeros + "\"",
		"step 0 take a", `step 0 take "\q"`, "step 0 crash", `step 0 crash 0 gone "f" 1`, `step 0 crash 0 kept "f" 1 "b"`,
		"joined 1", "world 1 2 3 4 " + zeros + " " + zeros + " " + zeros,
	} {
		readRefused(t, "P25.1", text, api.ErrScript)
	}
}

func TestExample3(t *testing.T) {
	want := crashOf(0, api.Fate{File: "log.0", Sector: 1, Kind: api.FateKept}, api.Fate{File: "log.0", Sector: 2, Kind: api.FateReplace, Bytes: "a\x00"})
	reads(t, "P25.1", `step 0 crash 0 kept "log.0" 1 replace "log.0" 2 "a\x00"`, want)
}

func TestExample4(t *testing.T) {
	line := "world 1000 700 65536 4096 " + zeros + " " + zeros + " " + zeros + " " + zeros
	reads(t, "P25.1", line, Command{Kind: World, World: pair.World{Capacity: 1000, Ours: 700, Disk: 65536, Segment: 4096}})
	reads(t, "P25.1", `step -3 refuse 2 "no"`, stepOf(-3, node.Step{Kind: node.Refuse, ID: 2, Note: "no"}))
}

func TestExample5(t *testing.T) {
	printRefused(t, "P25.1", api.ErrScript, Command{Kind: 10})
	printRefused(t, "P25.1", api.ErrScript, moveOf(6, 0))
	printRefused(t, "P25.1", api.ErrScript, stepOf(0, node.Step{Kind: 14}))
	printRefused(t, "P25.1", api.ErrScript, crashOf(0, api.Fate{Kind: 3}))
	prints(t, "P25.1", "joined\n", Command{Kind: Joined, N: 5})
}

// Each line there is, with and without its byte 10, and back.
func TestEachLine(t *testing.T) {
	var all []Command
	var text strings.Builder
	for _, s := range samples() {
		reads(t, "P25.1", s.line, s.want)
		reads(t, "P25.1", s.line+"\n", s.want)
		prints(t, "P25.1", s.line+"\n", s.want)
		all = append(all, s.want)
		text.WriteString(s.line + "\n")
	}
	reads(t, "P25.1", text.String(), all...)
	prints(t, "P25.1", text.String(), all...)
	prints(t, "P25.1", "")
	prints(t, "P25.1", "", []Command{}...)
}

// Lines that lack a word, have one more, or have two in each other's place.
func TestBentWords(t *testing.T) {
	extra := []string{"1", "-1", "joined", `"x"`, zeros, ""}
	for _, s := range samples() {
		words := strings.Split(s.line, " ")
		for i := range words {
			likeModel(t, strings.Join(append(append([]string{}, words[:i]...), words[i+1:]...), " "))
			for _, x := range extra {
				likeModel(t, strings.Join(append(append(append([]string{}, words[:i]...), x), words[i:]...), " "))
				likeModel(t, strings.Join(append(append(append([]string{}, words[:i]...), x), words[i+1:]...), " "))
			}
			for k := range words {
				bent := append([]string{}, words...)
				bent[i], bent[k] = bent[k], bent[i]
				likeModel(t, strings.Join(bent, " "))
			}
		}
		readRefused(t, "P25.1", s.line+" ", api.ErrScript)
		readRefused(t, "P25.1", " "+s.line, api.ErrScript)
		readRefused(t, "P25.1", s.line+"\r\n", api.ErrScript)
		readRefused(t, "P25.1", strings.ToUpper(s.line[:1])+s.line[1:], api.ErrScript)
		readRefused(t, "P25.1", strings.Replace(s.line+" x", " ", "\t", 1), api.ErrScript)
		readRefused(t, "P25.1", strings.Replace(s.line+" x", " ", "  ", 1), api.ErrScript)
	}
}

// likeModel holds Parse against the model, and tells whether the text is taken.
func likeModel(t *testing.T, text string) bool {
	t.Helper()
	want, errno := modelParse(text)
	if got, e := Parse(text); !sameCommands(got, want) || e != errno {
		t.Errorf("P25.1: Parse(%s) tells %+v, %d, want %+v, %d", shown(text), got, e, want, errno)
	}
	return errno == api.OK
}

// Each line with any byte taken away, put in, or put in another's place.
func TestBentBytes(t *testing.T) {
	const some = "\x00\n\x1f !\"#+-./0189:Aafgxz[\\]_~\x7f\x80\xff"
	taken, refused := 0, 0
	for _, s := range samples() {
		bytes := some
		if len(s.line) < 40 {
			bytes = allBytes()
		}
		bend := func(text string) {
			if likeModel(t, text) {
				taken++
			} else {
				refused++
			}
		}
		for i := range len(s.line) + 1 {
			bend(s.line[:i])
			bend(s.line[i:])
			for k := range len(bytes) {
				bend(s.line[:i] + bytes[k:k+1] + s.line[i:])
				if i < len(s.line) {
					bend(s.line[:i] + bytes[k:k+1] + s.line[i+1:])
				}
			}
		}
	}
	if taken < 2000 || refused < 20000 {
		t.Errorf("P25.1: %d were taken, %d refused", taken, refused)
	}
}

func allBytes() string {
	b := make([]byte, 256)
	for i := range b {
		b[i] = byte(i)
	}
	return string(b)
}

// Texts of words that belong to lines, whichever way they come.
func TestReadByChance(t *testing.T) {
	r := rand.New(rand.NewSource(251))
	words := []string{
		"step", "join", "cut", "deliver", "lose", "world", "quiet", "state", "ledger", "mark", "pipe", "files", "joined", "offer", "settle", "refuse", "sign", "close", "connect", "disconnect",
		"take", "checkpoint", "arm", "fall", "crash", "open", "lost", "kept", "replace", "0", "1", "-1", "-0", "00", "9223372036854775807", "9223372036854775808", zeros, zeros[1:], `""`, `"a b"`, `"\x41"`, `"\"`, `"\\"`, `"`, "#", "",
	}
	taken := 0
	for range 30000 {
		var l []string
		for range 1 + r.Intn(7) {
			l = append(l, words[r.Intn(len(words))])
		}
		if likeModel(t, strings.Join(l, []string{" ", " ", " ", "\n"}[r.Intn(4)])) {
			taken++
		}
	}
	for range 20000 {
		if text, e := Print(commandsByChance(r, 4)); e == api.OK && text != "" {
			i := r.Intn(len(text))
			k := i + r.Intn(min(3, len(text)-i)+1)
			if likeModel(t, text[:i]+textByChance(r, 2)+text[k:]) {
				taken++
			}
		}
	}
	if taken < 1000 {
		t.Errorf("P25.1: only %d were taken", taken)
	}
}

// One bad line is enough, wherever it stands, and no command is told then.
func TestOneBadLine(t *testing.T) {
	for _, bad := range []string{"x", " ", "join ", "step 0 take \"", "deliver 01", "\x00", "\r", "//", " #"} {
		for _, text := range []string{bad + "\njoin\njoin\n", "join\n" + bad + "\njoin", "join\n\n#\n" + bad, "join\n" + bad + "\n"} {
			readRefused(t, "P25.1", text, api.ErrScript)
		}
	}
	readRefused(t, "P25.1", "step 0 take \"a\nb\"", api.ErrScript)
	readRefused(t, "P25.1", "step 0\ntake \"a\"", api.ErrScript)
}

// Numbers: their ends, and forms that aren't theirs, wherever a line has one.
func TestNumbers(t *testing.T) {
	lines := []string{
		"deliver N", "lose N", "quiet N", "state N", "ledger N", "mark N", "pipe N", "files N", "step N sign", "step 0 offer N " + zeros, "step 0 settle N " + zeros, `step 0 refuse N "x"`,
		"step 0 arm N", "step 0 fall N", "step 0 crash N", `step 0 crash 0 lost "f" N`, `step 0 crash 0 kept "f" N`, `step 0 crash 0 replace "f" N "b"`,
	}
	for i := range 4 {
		numbers := []string{"5", "6", "7", "8"}
		numbers[i] = "N"
		lines = append(lines, "world "+strings.Join(numbers, " ")+" "+zeros+" "+zeros+" "+zeros+" "+zeros)
	}
	for _, line := range lines {
		for _, n := range []string{"0", "1", "-1", "9", "10", "100", "-10", "2147483648", "-2147483649", "4294967296", "9007199254740993", "9223372036854775806", "9223372036854775807", "-9223372036854775807", "-9223372036854775808"} {
			text := strings.Replace(line, "N", n, 1)
			if !likeModel(t, text) {
				t.Errorf("P25.1: the model refuses %q", text)
			}
			prints(t, "P25.2", text+"\n", mustRead(t, text)...)
		}
		for _, n := range []string{
			"", "-", "--1", "+1", "+0", "-0", "00", "01", "-01", "-00", "1-", "1.", "1.0", "1e3", "0x1", "1_0", "1,0", "\"1\"", "one", "٣", "0 ", " 0", "\t0", "a", "1a",
			"9223372036854775808", "-9223372036854775809", "18446744073709551616", "10000000000000000000", "-10000000000000000000", strings.Repeat("9", 100), "0" + strings.Repeat("0", 100),
		} {
			readRefused(t, "P25.1", strings.Replace(line, "N", n, 1), api.ErrScript)
		}
	}
}

// Hashes: each digit in each place, and forms that aren't theirs.
func TestHashes(t *testing.T) {
	head := "step 0 offer 1 "
	for i := range 64 {
		for v, d := range "0123456789abcdef" {
			h := api.Hash{}
			h[i/2] = byte(v) << (4 * (1 - i%2))
			text := zeros[:i] + string(d) + zeros[i+1:]
			reads(t, "P25.1", head+text, stepOf(0, node.Step{Kind: node.Offer, Amount: 1, Hash: h}))
		}
		for _, d := range "ABCDEFGgxz/:`@ \"-\x00" {
			readRefused(t, "P25.1", head+zeros[:i]+string(d)+zeros[i+1:], api.ErrScript)
		}
		readRefused(t, "P25.1", head+zeros[:i], api.ErrScript)
		readRefused(t, "P25.1", head+zeros+zeros[:i+1], api.ErrScript)
	}
	for _, h := range []string{"0x" + zeros[2:], "\"" + zeros + "\"", "\"" + zeros[2:] + "\"", "0", "-" + zeros[1:], strings.Repeat("é", 32)} {
		readRefused(t, "P25.1", head+h, api.ErrScript)
	}
}

// Which of the four hashes of a world is whose.
func TestHashesOfWorlds(t *testing.T) {
	w := pair.World{Seeds: [2]api.Hash{rising(1), rising(2)}, Keys: [2]api.Hash{rising(3), rising(4)}}
	line := "world 0 0 0 0 " + digitsOf(rising(1)) + " " + digitsOf(rising(2)) + " " + digitsOf(rising(3)) + " " + digitsOf(rising(4))
	reads(t, "P25.1", line, Command{Kind: World, World: w})
	for i := range 4 {
		l := []string{zeros, zeros, zeros, zeros}
		for _, bad := range []string{zeros[1:], zeros + "0", "1", "\"\"", strings.ToUpper(digitsOf(rising(9))), ""} {
			l[i] = bad
			readRefused(t, "P25.1", "world 0 0 0 0 "+strings.Join(l, " "), api.ErrScript)
		}
	}
}

// Quoted texts: each byte by itself, each escape, and what isn't theirs, wherever a line has one.
func TestQuotedTexts(t *testing.T) {
	heads := []struct{ ahead, behind string }{
		{"step 0 take ", ""}, {"step 0 refuse 1 ", ""}, {"step 0 crash 0 lost ", " 1"}, {"step 0 crash 0 kept ", " 1"}, {"step 0 crash 0 replace ", ` 1 "b"`}, {`step 0 crash 0 replace "f" 1 `, ""}, {`step 0 crash 0 replace "f" 1 `, ` lost "" 0`},
	}
	for _, h := range heads {
		line := func(q string) string { return h.ahead + q + h.behind }
		for b := range 256 {
			itself := string([]byte{byte(b)})
			if likeModel(t, line(`"`+itself+`"`)) != (32 <= b && b <= 126 && b != '"' && b != '\\') {
				t.Errorf("P25.1: a byte %d in quotes", b)
			}
			if likeModel(t, line(`"\`+itself+`"`)) != (b == '"' || b == '\\') {
				t.Errorf("P25.1: a byte %d behind a backslash", b)
			}
			if likeModel(t, line(`"\x`+itself+`0"`)) != strings.Contains(digits, itself) || likeModel(t, line(`"\x0`+itself+`"`)) != strings.Contains(digits, itself) {
				t.Errorf("P25.1: a byte %d for a digit", b)
			}
			if !likeModel(t, line(`"\x`+digitsOf(api.Hash{byte(b)})[:2]+`"`)) {
				t.Errorf("P25.1: the escape of a byte %d", b)
			}
		}
		for _, bad := range []string{
			"", `"`, `"a`, `a"`, `a`, `""a`, `a""`, `"a"b`, `"a""b"`, `"a" "b" "c"`, `"\"`, `"\\\"`, `"\x"`, `"\x4"`, `"\x4`, `"\x`, `"\`, `"\xAB"`, `"\xg0"`, `"\X41"`, `"\n"`, `"\t"`, `"\0"`, `"\101"`, `"\u0041"`, `"\ "`, `'a'`, "`a`", `"é"`, "\"\xff\"", "\"\t\"", "\"\r\"", "\"\x7f\"",
		} {
			readRefused(t, "P25.1", line(bad), api.ErrScript)
		}
	}
	for _, x := range []struct{ quoted, want string }{
		{`""`, ""}, {`" "`, " "}, {`"  a  "`, "  a  "}, {`"#"`, "#"}, {`"\x41\x7e\x20"`, "A~ "}, {`"\x22\x5c"`, `"\`}, {`"\"\\\""`, `"\"`}, {`"\\x41"`, `\x41`}, {`"\x0a"`, "\n"}, {`"\x414"`, "A4"}, {`"\xc3\xa9"`, "é"}, {`"\\"`, `\`}, {`"\\\\"`, `\\`}, {`"joined"`, "joined"},
	} {
		reads(t, "P25.1", "step 0 take "+x.quoted, stepOf(0, node.Step{Kind: node.Take, Bytes: x.want}))
		reads(t, "P25.1", "step 0 refuse 0 "+x.quoted, stepOf(0, node.Step{Kind: node.Refuse, Note: x.want}))
	}
}

// Many fates, and what may stand behind one.
func TestFates(t *testing.T) {
	line := "step 0 crash 0"
	var fates []api.Fate
	for i := range 200 {
		line += ` kept "f" ` + strings.Repeat("1", 1+i%9)
		fates = append(fates, api.Fate{File: "f", Sector: mustSector(1 + i%9), Kind: api.FateKept})
	}
	reads(t, "P25.1", line, crashOf(0, fates...))
	prints(t, "P25.2", line+"\n", crashOf(0, fates...))
	parts := []string{` lost "a" 1`, ` kept "b" 2`, ` replace "c" 3 "d"`, ` replace "c" 3`, ` lost`, ` gone "a" 1`, ` lost "a"`, ` "lost" "a" 1`, ` `, ` 1`, ` "x"`, ` LOST "a" 1`, ` kept  "a" 1`}
	for _, a := range parts {
		likeModel(t, "step 0 crash 0"+a)
		for _, b := range parts {
			likeModel(t, "step 0 crash 0"+a+b)
			for _, c := range parts {
				likeModel(t, "step 0 crash 0"+a+b+c)
			}
		}
	}
}

func mustSector(ones int) int {
	n := 0
	for range ones {
		n = 10*n + 1
	}
	return n
}

// Kinds that are none, of commands, moves, steps and fates, at the ends of all numbers too.
func TestKindsThatAreNone(t *testing.T) {
	odd := []int{math.MinInt, -1 << 32, -9, -2, -1, 1 << 32, 1<<32 + 1, 1<<32 + 9, 256 + 1, 256 + 9, math.MaxInt}
	right := Command{Kind: Joined}
	for _, k := range append(odd, 0, 10, 11, 14) {
		for _, l := range [][]Command{{{Kind: k}}, {right, {Kind: k}}, {{Kind: k}, right}, {{Kind: k, N: 1, Side: 1, Move: pair.Move{Kind: pair.Join}}}} {
			printRefused(t, "P25.1", api.ErrScript, l...)
		}
	}
	for _, k := range append(odd, 0, 6, 7, 9) {
		printRefused(t, "P25.1", api.ErrScript, moveOf(k, 0))
		printRefused(t, "P25.1", api.ErrScript, Command{Kind: Move, Move: pair.Move{Kind: k, Step: node.Step{Kind: node.Sign}}})
	}
	for _, k := range append(odd, 0, 14, 15) {
		printRefused(t, "P25.1", api.ErrScript, stepOf(0, node.Step{Kind: k}))
	}
	for _, k := range append(odd, 3, 4) {
		printRefused(t, "P25.1", api.ErrScript, crashOf(0, api.Fate{Kind: k}))
		printRefused(t, "P25.1", api.ErrScript, crashOf(0, api.Fate{}, api.Fate{Kind: 2}, api.Fate{Kind: k}))
	}
}

// What a kind doesn't name isn't looked at, whatever stands there.
func TestWhatIsNotNamed(t *testing.T) {
	long := strings.Repeat("\x00", 100000)
	junk := node.Step{Kind: 99, Amount: -5, ID: -6, N: -7, Hash: rising(3), Note: long, Bytes: long, Fates: []api.Fate{{Kind: 9, File: long, Bytes: long}}}
	for _, s := range samples() {
		c := s.want
		if c.Kind != World {
			c.World = pair.World{Capacity: -9, Ours: 5, Disk: 6, Segment: 7, Seeds: [2]api.Hash{rising(1)}, Keys: [2]api.Hash{rising(2)}}
		}
		if c.Kind != Quiet {
			c.N = 77
		}
		if c.Kind < State || Files < c.Kind {
			c.Side = 78
		}
		if c.Kind != Move {
			c.Move = pair.Move{Kind: 99, Side: 79, Step: junk}
		} else if c.Move.Kind != pair.Step {
			c.Move.Step = junk
		}
		if c.Kind == Move && (c.Move.Kind == pair.Join || c.Move.Kind == pair.Cut) {
			c.Move.Side = 80
		}
		prints(t, "P25.1", s.line+"\n", c)
	}
	for kind := 1; kind <= 13; kind++ {
		for _, s := range samples() {
			if x := s.want.Move; x.Kind == pair.Step && x.Step.Kind == kind {
				prints(t, "P25.1", s.line+"\n", stepOf(x.Side, besides(x.Step, junk)))
			}
		}
	}
	prints(t, "P25.1", "step 0 crash 0 lost \"\" 0 kept \"\" 0\n", crashOf(0, api.Fate{Bytes: long}, api.Fate{Kind: 1, Bytes: long}))
}

// besides: the step, with another's fields wherever its kind names none.
func besides(s, other node.Step) node.Step {
	other.Kind = s.Kind
	if s.Kind == node.Offer {
		other.Amount = s.Amount
	}
	if s.Kind == node.Settle || s.Kind == node.Refuse {
		other.ID = s.ID
	}
	if s.Kind == node.Offer || s.Kind == node.Settle {
		other.Hash = s.Hash
	}
	if s.Kind == node.Refuse {
		other.Note = s.Note
	}
	if s.Kind == node.Take {
		other.Bytes = s.Bytes
	}
	if s.Kind == node.Arm || s.Kind == node.Fall || s.Kind == node.Crash {
		other.N = s.N
	}
	if s.Kind == node.Crash {
		other.Fates = s.Fates
	}
	return other
}

// Any commands, kinds that are none among them.
func TestPrintByChance(t *testing.T) {
	r := rand.New(rand.NewSource(252))
	seen := map[api.Errno]int{}
	for range 20000 {
		l := commandsByChance(r, 5)
		if len(l) > 0 && r.Intn(4) == 0 {
			c := &l[r.Intn(len(l))]
			switch r.Intn(4) {
			case 0:
				c.Kind = int(numberByChance(r))
			case 1:
				c.Move.Kind = int(numberByChance(r))
			case 2:
				c.Move.Step.Kind = int(numberByChance(r))
			default:
				c.Move.Step.Fates = fatesByChance(r, 5)
			}
		}
		if r.Intn(100) == 0 {
			l = append(l, stepOf(0, node.Step{Kind: node.Take, Bytes: textByChance(r, 5000)}))
		}
		want, errno := modelPrint(l)
		got, e := Print(l)
		if got != want || e != errno {
			t.Fatalf("P25.1: Print(%+v) tells %s, %d, want %s, %d", l, shown(got), e, shown(want), errno)
		}
		seen[e]++
	}
	if seen[api.OK] < 10000 || seen[api.ErrScript] < 1000 || seen[api.ErrLong] < 20 {
		t.Errorf("P25.1: %v", seen)
	}
}
