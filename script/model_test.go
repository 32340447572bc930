package script

import (
	"fmt"
	"math/big"
	"regexp"
	"strconv"
	"strings"

	"escrow/api"
	"escrow/node"
	"escrow/pair"
)

// The model: a second telling of the chapter, by patterns of whole lines.

const (
	numberForm = `(0|-?[1-9][0-9]*)`
	hashForm   = `([0-9a-f]{64})`
	quotedForm = `("(?:[ !#-\[\]-~]|\\["\\]|\\x[0-9a-f]{2})*")`
	fateForm   = ` (?:(lost|kept) ` + quotedForm + ` ` + numberForm + `|(replace) ` + quotedForm + ` ` + numberForm + ` ` + quotedForm + `)`
)

type form struct {
	pattern *regexp.Regexp
	make    func(words []string) Command
}

// pattern is of whole lines: N, H and Q stand for a number, a hash and a quoted text.
func pattern(text string) *regexp.Regexp {
	text = strings.NewReplacer("N", numberForm, "H", hashForm, "Q", quotedForm, "F", "((?:"+fateForm+")*)").Replace(text)
	return regexp.MustCompile(`\A` + text + `\z`)
}

var fatePattern = regexp.MustCompile(fateForm)

// outside is what the model panics with at a number that is none.
type outside struct{}

func numberIn(word string) int64 {
	n, _ := new(big.Int).SetString(word, 10)
	if !n.IsInt64() {
		panic(outside{})
	}
	return n.Int64()
}

func sideIn(word string) int { return int(numberIn(word)) }

func hashIn(word string) api.Hash {
	var h api.Hash
	for i := range h {
		b, err := strconv.ParseUint(word[2*i:2*i+2], 16, 8)
		if err != nil {
			panic(err)
		}
		h[i] = byte(b)
	}
	return h
}

// textIn: the language's own quoted texts have these escapes too.
func textIn(word string) string {
	s, err := strconv.Unquote(word)
	if err != nil {
		panic(err)
	}
	return s
}

func fatesIn(text string) []api.Fate {
	var l []api.Fate
	for _, m := range fatePattern.FindAllStringSubmatch(text, -1) {
		switch {
		case m[4] == "replace":
			l = append(l, api.Fate{Kind: 2, File: textIn(m[5]), Sector: sideIn(m[6]), Bytes: textIn(m[7])})
		case m[1] == "kept":
			l = append(l, api.Fate{Kind: 1, File: textIn(m[2]), Sector: sideIn(m[3])})
		default:
			l = append(l, api.Fate{Kind: 0, File: textIn(m[2]), Sector: sideIn(m[3])})
		}
	}
	return l
}

// forms are all lines that there are.
func forms() []form {
	l := []form{
		{pattern("world N N N N H H H H"), func(w []string) Command {
			return Command{Kind: 1, World: pair.World{
				Capacity: numberIn(w[0]), Ours: numberIn(w[1]), Disk: sideIn(w[2]), Segment: sideIn(w[3]),
				Seeds: [2]api.Hash{hashIn(w[4]), hashIn(w[5])}, Keys: [2]api.Hash{hashIn(w[6]), hashIn(w[7])},
			}}
		}},
		{pattern("join"), func([]string) Command { return moveOf(2, 0) }},
		{pattern("cut"), func([]string) Command { return moveOf(3, 0) }},
		{pattern("deliver N"), func(w []string) Command { return moveOf(4, sideIn(w[0])) }},
		{pattern("lose N"), func(w []string) Command { return moveOf(5, sideIn(w[0])) }},
		{pattern("quiet N"), func(w []string) Command { return Command{Kind: 3, N: numberIn(w[0])} }},
		{pattern("joined"), func([]string) Command { return Command{Kind: 9} }},
		stepForm("offer N H", func(w []string) node.Step { return node.Step{Kind: 1, Amount: numberIn(w[0]), Hash: hashIn(w[1])} }),
		stepForm("settle N H", func(w []string) node.Step { return node.Step{Kind: 2, ID: numberIn(w[0]), Hash: hashIn(w[1])} }),
		stepForm("refuse N Q", func(w []string) node.Step { return node.Step{Kind: 3, ID: numberIn(w[0]), Note: textIn(w[1])} }),
		stepForm("take Q", func(w []string) node.Step { return node.Step{Kind: 8, Bytes: textIn(w[0])} }),
		stepForm("arm N", func(w []string) node.Step { return node.Step{Kind: 10, N: numberIn(w[0])} }),
		stepForm("fall N", func(w []string) node.Step { return node.Step{Kind: 11, N: numberIn(w[0])} }),
		stepForm("crash NF", func(w []string) node.Step { return node.Step{Kind: 12, N: numberIn(w[0]), Fates: fatesIn(w[1])} }),
	}
	for kind, name := range map[int]string{4: "state", 5: "ledger", 6: "mark", 7: "pipe", 8: "files"} {
		l = append(l, form{pattern(name + " N"), func(w []string) Command { return Command{Kind: kind, Side: sideIn(w[0])} }})
	}
	for kind, name := range map[int]string{4: "sign", 5: "close", 6: "connect", 7: "disconnect", 9: "checkpoint", 13: "open"} {
		l = append(l, stepForm(name, func([]string) node.Step { return node.Step{Kind: kind} }))
	}
	return l
}

func stepForm(text string, makes func([]string) node.Step) form {
	return form{pattern("step N " + text), func(w []string) Command { return stepOf(sideIn(w[0]), makes(w[1:])) }}
}

var allForms = forms()

// modelLine: what a line says; false: it is no command's.
func modelLine(line string) (c Command, ok bool) {
	defer func() {
		if why := recover(); why != nil {
			if why != any(outside{}) {
				panic(why)
			}
			c, ok = Command{}, false
		}
	}()
	for _, f := range allForms {
		if m := f.pattern.FindStringSubmatch(line); m != nil {
			return f.make(m[1:]), true
		}
	}
	return Command{}, false
}

// modelLines: what there is between bytes 10, each with its number of bytes, and with nothing behind the last.
func modelLines(text string) []string {
	l := strings.SplitAfter(text, "\n")
	if l[len(l)-1] == "" {
		l = l[:len(l)-1]
	}
	for i := range l {
		l[i] = strings.TrimSuffix(l[i], "\n")
	}
	return l
}

func modelLong(text string) bool {
	lines := modelLines(text)
	long := len(text) > 65536 || len(lines) > 1024
	for _, line := range lines {
		long = long || len(line) > 4096
	}
	return long
}

func modelParse(text string) ([]Command, api.Errno) {
	if modelLong(text) {
		return nil, 3
	}
	var l []Command
	for _, line := range modelLines(text) {
		if line == "" || strings.HasPrefix(line, "#") {
			continue
		}
		c, ok := modelLine(line)
		if !ok {
			return nil, 250
		}
		l = append(l, c)
	}
	return l, 0
}

func modelQuote(s string) string {
	text := ""
	for _, b := range []byte(s) {
		switch {
		case b == 34 || b == 92:
			text += "\\" + string(rune(b))
		case b < 32 || b > 126:
			text += fmt.Sprintf("\\x%02x", b)
		default:
			text += string(rune(b))
		}
	}
	return "\"" + text + "\""
}

func modelFates(l []api.Fate) (string, bool) {
	text := ""
	for _, f := range l {
		switch f.Kind {
		case 0:
			text += fmt.Sprintf(" lost %s %d", modelQuote(f.File), f.Sector)
		case 1:
			text += fmt.Sprintf(" kept %s %d", modelQuote(f.File), f.Sector)
		case 2:
			text += fmt.Sprintf(" replace %s %d %s", modelQuote(f.File), f.Sector, modelQuote(f.Bytes))
		default:
			return "", false
		}
	}
	return text, true
}

func modelStep(s node.Step) (string, bool) {
	switch s.Kind {
	case 1:
		return fmt.Sprintf("offer %d %x", s.Amount, s.Hash), true
	case 2:
		return fmt.Sprintf("settle %d %x", s.ID, s.Hash), true
	case 3:
		return fmt.Sprintf("refuse %d %s", s.ID, modelQuote(s.Note)), true
	case 8:
		return "take " + modelQuote(s.Bytes), true
	case 10:
		return fmt.Sprintf("arm %d", s.N), true
	case 11:
		return fmt.Sprintf("fall %d", s.N), true
	case 12:
		fates, ok := modelFates(s.Fates)
		return fmt.Sprintf("crash %d", s.N) + fates, ok
	}
	name, ok := map[int]string{4: "sign", 5: "close", 6: "connect", 7: "disconnect", 9: "checkpoint", 13: "open"}[s.Kind]
	return name, ok
}

func modelMove(m pair.Move) (string, bool) {
	switch m.Kind {
	case 1:
		s, ok := modelStep(m.Step)
		return fmt.Sprintf("step %d %s", m.Side, s), ok
	case 2:
		return "join", true
	case 3:
		return "cut", true
	case 4:
		return fmt.Sprintf("deliver %d", m.Side), true
	case 5:
		return fmt.Sprintf("lose %d", m.Side), true
	}
	return "", false
}

// modelTold: a command's line; false: a kind is none.
func modelTold(c Command) (string, bool) {
	switch c.Kind {
	case 1:
		w := c.World
		return fmt.Sprintf("world %d %d %d %d %x %x %x %x", w.Capacity, w.Ours, w.Disk, w.Segment, w.Seeds[0], w.Seeds[1], w.Keys[0], w.Keys[1]), true
	case 2:
		return modelMove(c.Move)
	case 3:
		return fmt.Sprintf("quiet %d", c.N), true
	case 4, 5, 6, 7, 8:
		return fmt.Sprintf("%s %d", []string{"state", "ledger", "mark", "pipe", "files"}[c.Kind-4], c.Side), true
	case 9:
		return "joined", true
	}
	return "", false
}

func modelPrint(l []Command) (string, api.Errno) {
	var text strings.Builder
	for _, c := range l {
		line, ok := modelTold(c)
		if !ok {
			return "", 250
		}
		text.WriteString(line + "\n")
	}
	if modelLong(text.String()) {
		return "", 3
	}
	return text.String(), 0
}

// bare: the command with what its kind doesn't name zero.
func bare(c Command) Command {
	switch c.Kind {
	case 1:
		return Command{Kind: 1, World: c.World}
	case 2:
		return Command{Kind: 2, Move: bareMove(c.Move)}
	case 3:
		return Command{Kind: 3, N: c.N}
	case 9:
		return Command{Kind: 9}
	}
	return Command{Kind: c.Kind, Side: c.Side}
}

func bareMove(m pair.Move) pair.Move {
	switch m.Kind {
	case 1:
		return pair.Move{Kind: 1, Side: m.Side, Step: bareStep(m.Step)}
	case 4, 5:
		return pair.Move{Kind: m.Kind, Side: m.Side}
	}
	return pair.Move{Kind: m.Kind}
}

func bareStep(s node.Step) node.Step {
	n := node.Step{Kind: s.Kind}
	switch s.Kind {
	case 1:
		n.Amount, n.Hash = s.Amount, s.Hash
	case 2:
		n.ID, n.Hash = s.ID, s.Hash
	case 3:
		n.ID, n.Note = s.ID, s.Note
	case 8:
		n.Bytes = s.Bytes
	case 10, 11:
		n.N = s.N
	case 12:
		n.N = s.N
		for _, f := range s.Fates {
			if f.Kind != 2 {
				f.Bytes = ""
			}
			n.Fates = append(n.Fates, f)
		}
	}
	return n
}
