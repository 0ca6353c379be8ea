package engine_test

import (
	"encoding/hex"
	"math/big"
	"regexp"
	"strings"

	"modality/api"
	"modality/dict"
	"modality/dump"
)

// A second reading of the chapter's part about the text: words by a regular expression, lines by the document's table as text.

// lineForms has a line for each of the document's table: its first word, and a letter for each word behind it.
// T any word, N number, I message ID, H bytes, S syntaxes, C classes, G tags, K keeps; G and K any number of them.
const lineForms = `
server   T N N N N N
caller   T
scanner  N T T N N S C
connect  N
release  N
abort    N
echo     N I
cancel   N I
find     N I T {
create   N I T T {
set      N I T T {
get      N I T G
link     N
data     N H
drop     N
order    T
feed     H
feedlink
turn     N
tick     N
room     N
fuse     N K
power    K
start
`

// formOf is the letters of a first word's line.
func formOf(first string) (letters []string, found bool) {
	for _, line := range strings.Split(lineForms, "\n") {
		if f := strings.Fields(line); len(f) > 0 && f[0] == first {
			return f[1:], true
		}
	}
	return nil, false
}

var (
	quotedForm = regexp.MustCompile(`^"((?:[^"\\\x00-\x1f\x7f]|\\["\\nrt]|\\x[0-9a-fA-F]{2})*)"(?:[\t\r ]|$)`)
	plainForm  = regexp.MustCompile(`^[^"\t\r ][^\t\r ]*`)
	escapeForm = regexp.MustCompile(`\\(x..|.)`)
	closeForm  = regexp.MustCompile(`^\}[\t\r ]*$`)
	emptyForm  = regexp.MustCompile(`^[\t\r ]*(#|$)`)
	keepForm   = regexp.MustCompile(`^(dir|[0-9]+):([0-9]+)$`)

	letterForms = map[string]*regexp.Regexp{
		"T": regexp.MustCompile(`(?s)^.*$`),
		"N": regexp.MustCompile(`^(0|[1-9][0-9]*)$`),
		"I": regexp.MustCompile(`^(0|[1-9][0-9]*)$`),
		"H": regexp.MustCompile(`^(-|([0-9a-fA-F]{2})+)$`),
		"S": regexp.MustCompile(`^(explicit|implicit|explicit,implicit|implicit,explicit)$`),
		"C": regexp.MustCompile(`^(verify|worklist|perform|retrieve)(,(verify|worklist|perform|retrieve))*$`),
		"K": regexp.MustCompile(`^(dir|0|[1-9][0-9]*):(0|[1-9][0-9]*)$`),
		"G": regexp.MustCompile(`^.*$`),
		"{": regexp.MustCompile(`^\{$`),
	}

	uidOfClass    = map[string]string{"verify": "1.2.840.10008.1.1", "worklist": "1.2.840.10008.5.1.4.31", "perform": "1.2.840.10008.3.1.2.3.3", "retrieve": "1.2.840.10008.3.1.2.3.4"}
	numOfSyntax   = map[string]api.Syntax{"implicit": 1, "explicit": 2}
	doOfWord      = map[string]int{"connect": api.DoConnect, "release": api.DoRelease, "abort": api.DoAbort, "echo": api.DoEcho, "cancel": api.DoCancel, "find": api.DoFind, "create": api.DoCreate, "set": api.DoSet, "get": api.DoGet}
	actOfWord     = map[string]int{"link": api.ALink, "data": api.AData, "drop": api.ADrop, "feed": api.AFeed, "feedlink": api.AFeedLink, "turn": api.ATurn, "tick": api.ATick, "room": api.ARoom, "fuse": api.AFuse, "power": api.APower, "start": api.AStart}
	actUsesLine   = map[string]bool{"link": true, "data": true, "drop": true}
	headWord      = map[string]bool{"server": true, "caller": true, "scanner": true}
	greatestOfInt = big.NewInt(2147483647)
)

// said is a word: what it stands for, and whether it was quoted.
type said struct {
	text   string
	quoted bool
}

// saidBy parts a line into words.
func saidBy(line string) (words []said, ok bool) {
	for {
		line = strings.TrimLeft(line, "\t\r ")
		if line == "" {
			return words, true
		}
		if m := quotedForm.FindStringSubmatch(line); m != nil {
			text := escapeForm.ReplaceAllStringFunc(m[1], func(e string) string {
				if e[1] == 'x' {
					b, _ := hex.DecodeString(e[2:])
					return string(b)
				}
				return map[string]string{`\n`: "\n", `\r`: "\r", `\t`: "\t"}[e] + strings.Trim(e[1:], "nrt")
			})
			words = append(words, said{text, true})
			line = line[len(m[1])+2:]
			continue
		}
		m := plainForm.FindString(line)
		if m == "" {
			return nil, false
		}
		words = append(words, said{m, false})
		line = line[len(m):]
	}
}

func numberIn(text string, most int64) (int, bool) {
	n, ok := new(big.Int).SetString(text, 10)
	if !ok || n.Cmp(big.NewInt(most)) > 0 {
		return 0, false
	}
	return int(n.Int64()), true
}

// fitsLetter tells whether a word is of a letter's form.
func fitsLetter(letter string, w said) bool {
	if w.quoted {
		return letter == "T"
	}
	if !letterForms[letter].MatchString(w.text) {
		return false
	}
	ok := true
	switch letter {
	case "N":
		_, ok = numberIn(w.text, 1<<31-1)
	case "I":
		_, ok = numberIn(w.text, 65535)
	case "C":
		seen := map[string]bool{}
		for _, c := range strings.Split(w.text, ",") {
			ok = ok && !seen[c]
			seen[c] = true
		}
	case "G":
		_, err := dict.ParseTag(w.text)
		ok = err == nil
	case "K":
		m := keepForm.FindStringSubmatch(w.text)
		_, ok = numberIn(m[2], 1<<31-1)
		if m[1] != "dir" {
			_, fits := numberIn(m[1], 1<<31-1)
			ok = ok && fits
		}
	}
	return ok
}

// fitsForm tells whether a line's words are of its form.
func fitsForm(letters []string, words []said) bool {
	for i, l := range letters {
		if l == "G" || l == "K" {
			dirs := 0
			for _, w := range words[min(i, len(words)):] {
				if !fitsLetter(l, w) {
					return false
				}
				if l == "K" && strings.HasPrefix(w.text, "dir") {
					dirs++
				}
			}
			return dirs <= 1 && len(words) >= i
		}
		if i >= len(words) || !fitsLetter(l, words[i]) {
			return false
		}
	}
	return len(words) == len(letters)
}

// modelReader goes through the lines.
type modelReader struct {
	lines  []string
	script api.Script
	taken  map[int]bool
	server int
	begun  bool
}

// readAgain is what P18.1 asks of a text.
func readAgain(text string) (api.Script, error) {
	if len(text) > 1<<20 {
		return api.Script{}, fault(0, api.ErrEngineLong)
	}
	m := &modelReader{lines: strings.Split(text, "\n"), taken: map[int]bool{}}
	if n := len(m.lines); n > 1 && m.lines[n-1] == "" {
		m.lines = m.lines[:n-1]
	}
	for at := 1; at <= len(m.lines); {
		more, reason := m.line(at)
		if reason != nil {
			return api.Script{}, fault(at, reason)
		}
		at += 1 + more
	}
	if m.server == 0 {
		return api.Script{}, fault(len(m.lines), api.ErrEngineLine)
	}
	return m.script, nil
}

// line takes the line with this number, and tells how many behind it belong to it.
func (m *modelReader) line(at int) (more int, reason error) {
	line := m.lines[at-1]
	if emptyForm.MatchString(line) {
		return 0, nil
	}
	words, ok := saidBy(line)
	if !ok {
		return 0, api.ErrEngineWord
	}
	letters, ok := formOf(words[0].text)
	if !ok || words[0].quoted || !fitsForm(letters, words[1:]) || (words[0].text == "server") != (m.server == 0) {
		return 0, api.ErrEngineLine
	}
	first, words := words[0].text, words[1:]
	if !headWord[first] {
		return m.happening(at, first, words, letters)
	}
	if first == "server" {
		m.server = at
		m.script.Config = api.Config{Title: words[0].text, Lines: num(words[1]), Artim: num(words[2]), Compact: num(words[3])}
		m.script.Disk = api.DiskConfig{Blocks: num(words[4]), Names: num(words[5])}
		return 0, nil
	}
	if m.begun {
		return 0, api.ErrEngineScanner
	}
	if first == "caller" {
		m.script.Config.Callers = append(m.script.Config.Callers, words[0].text)
		return 0, nil
	}
	n := num(words[0])
	if n >= 16 || m.taken[n] {
		return 0, api.ErrEngineScanner
	}
	m.taken[n] = true
	c := api.ScuConfig{Title: words[1].text, Called: words[2].text, Most: uint32(num(words[3])), Artim: num(words[4])}
	for _, s := range strings.Split(words[5].text, ",") {
		c.Syntaxes = append(c.Syntaxes, numOfSyntax[s])
	}
	for _, s := range strings.Split(words[6].text, ",") {
		c.Classes = append(c.Classes, uidOfClass[s])
	}
	m.script.Scanners = append(m.script.Scanners, api.ScriptScanner{Line: n, Config: c})
	return 0, nil
}

func num(w said) int {
	n, _ := numberIn(w.text, 1<<31-1)
	return n
}

func (m *modelReader) happening(at int, first string, words []said, letters []string) (more int, reason error) {
	m.begun = true
	h := api.Hap{Line: at, Kind: api.HapOrder}
	if do, ok := doOfWord[first]; ok {
		h.Kind, h.Do.Kind = api.HapDo, do
	}
	if act, ok := actOfWord[first]; ok {
		h.Kind, h.Act.Kind = api.HapAct, act
	}
	var texts []string
	for i, w := range words {
		switch letters[min(i, len(letters)-1)] {
		case "T":
			texts = append(texts, w.text)
		case "N":
			switch {
			case h.Kind == api.HapDo:
				h.At = num(w)
			case actUsesLine[first]:
				h.Act.Line = num(w)
			default:
				h.Act.Count = num(w)
			}
		case "I":
			h.Do.Id = uint16(num(w))
		case "H":
			if b, _ := hex.DecodeString(w.text); len(b) > 0 {
				h.Act.Data = b
			}
		case "G":
			tag, _ := dict.ParseTag(w.text)
			h.Do.Attrs = append(h.Do.Attrs, tag)
		case "K":
			k := keepForm.FindStringSubmatch(w.text)
			if units := num(said{text: k[2]}); k[1] == "dir" {
				h.Act.Keeps.Dir = units
			} else {
				h.Act.Keeps.Files = append(h.Act.Keeps.Files, api.DiskKeep{Id: uint64(num(said{text: k[1]})), Units: units})
			}
		}
	}
	switch first {
	case "order":
		h.Text = texts[0]
	case "find":
		h.Do.Charset = texts[0]
	case "create", "set":
		h.Do.UID, h.Do.Charset = texts[0], texts[1]
	case "get":
		h.Do.UID = texts[0]
	}
	if h.Kind == api.HapDo && !m.taken[h.At] || actUsesLine[first] && m.taken[h.Act.Line] {
		return 0, api.ErrEngineScanner
	}
	if len(m.script.Haps) == 10000 {
		return 0, api.ErrEngineMany
	}
	if first == "find" || first == "create" || first == "set" {
		for more < len(m.lines)-at && !closeForm.MatchString(m.lines[at+more]) {
			more++
		}
		if more == len(m.lines)-at {
			return 0, api.ErrEngineDump
		}
		text := ""
		for _, l := range m.lines[at : at+more] {
			text += l + "\n"
		}
		more++
		nodes, err := dump.Parse(text)
		if err != nil {
			return 0, err
		}
		h.Do.Nodes = nodes
	}
	m.script.Haps = append(m.script.Haps, h)
	return more, nil
}
