package dump_test

import (
	"encoding/binary"
	"math"
	"math/big"
	"regexp"
	"slices"
	"strconv"
	"strings"
	"testing"

	"modality/api"
	"modality/dict"
	"modality/dump"
)

// The kinds of VRs, as the document's table of values has them.
const (
	piecesVRs = "AE AS CS DA DS DT IS LO PN SH TM UC UI"
	proseVRs  = "LT ST UT UR"
	wholeVRs  = "US UL SS SL"
	floatVRs  = "FL FD"
	tagVRs    = "AT"
)

func isOf(v api.VR, words string) bool { return strings.Contains(words, dict.VRWord(v)) }

// modelToken is a token: its kind is the sort's name, or a mark itself.
type modelToken struct {
	kind string
	at   int
	text string
}

// sorts are what a text may be made of, each as long as can be.
var sorts = []struct {
	kind string
	form *regexp.Regexp
}{
	{"blank", regexp.MustCompile(`^(?:[\x09\x0A\x0D\x20]|#[^\n]*)+`)},
	{"tag", regexp.MustCompile(`^\([0-9A-Fa-f]{4},[0-9A-Fa-f]{4}\)`)},
	{"word", regexp.MustCompile(`^[A-Za-z][A-Za-z0-9]*`)},
	{"number", regexp.MustCompile(`^[0-9-][0-9.e+-]*`)},
	{"quoted", regexp.MustCompile(`^"(?:[^\x00-\x1F\x7F"\\]|\\["\\]|\\x[0-9A-Fa-f]{2})*"`)},
	{"mark", regexp.MustCompile(`^[{}\\]`)},
}

var (
	hexForm   = regexp.MustCompile(`^x[0-9A-Fa-f]*$`)
	wholeForm = regexp.MustCompile(`^-?(?:0|[1-9][0-9]*)$`)
	floatForm = regexp.MustCompile(`^-?[0-9]+(?:\.[0-9]+)?(?:e[+-]?[0-9]+)?$`)
	escapes   = regexp.MustCompile(`\\x..|\\.`)
)

// modelCut gives the tokens of a text, with its end as the last one; and the place of what is none, or -1.
func modelCut(text string) ([]modelToken, int) {
	var tokens []modelToken
cutting:
	for at := 0; at < len(text); {
		for _, s := range sorts {
			if found := s.form.FindString(text[at:]); found != "" {
				tokens = append(tokens, modelToken{s.kind, at, found})
				at += len(found)
				continue cutting
			}
		}
		return nil, at
	}
	for i, t := range tokens {
		switch {
		case t.kind == "mark":
			tokens[i].kind = t.text
		case t.kind == "word" && hexForm.MatchString(t.text):
			tokens[i].kind = "hex"
		}
	}
	tokens = slices.DeleteFunc(tokens, func(t modelToken) bool { return t.kind == "blank" })
	return append(tokens, modelToken{"end", len(text), ""}), -1
}

// modelOpen is what is begun and not ended: a room of elements, or a sequence.
type modelOpen struct {
	node int
	last api.Tag
}

// modelReader goes from token to token by the state it is in, as the document's grammar says.
type modelReader struct {
	state func(modelToken) (again bool)
	nodes []api.Node
	open  []modelOpen // rooms and sequences by turns
	tag   api.Tag
	vr    api.VR
	first modelToken
	told  []string
	code  api.Errno
	at    int
	done  bool
}

// modelParse reads a text; a number other than OK, if it is refused.
func modelParse(text string) ([]api.Node, api.Errno, int) {
	if len(text) > 1048576 {
		return nil, api.ErrDumpLong, 1048576
	}
	tokens, bad := modelCut(text)
	if bad >= 0 {
		return nil, api.ErrDumpToken, bad
	}
	m := &modelReader{open: []modelOpen{{node: -1}}}
	m.state = m.atElement
	for _, t := range tokens {
		for m.state(t) && !m.done {
		}
		if m.done {
			break
		}
	}
	if m.code != api.OK {
		return nil, m.code, m.at
	}
	return m.nodes, api.OK, 0
}

func (m *modelReader) fail(t modelToken, code api.Errno) bool {
	m.code, m.at, m.done = code, t.at, true
	return false
}

func (m *modelReader) room() *modelOpen { return &m.open[len(m.open)-1] }

// put adds a node to what is open.
func (m *modelReader) put(n api.Node) {
	if around := m.room().node; around >= 0 {
		m.nodes[around].N++
	}
	m.room().last = n.Tag
	m.nodes = append(m.nodes, n)
}

func (m *modelReader) atElement(t modelToken) bool {
	switch t.kind {
	case "end":
		if len(m.open) == 1 {
			m.done = true
			return false
		}
	case "}":
		if len(m.open) > 1 {
			m.open = m.open[:len(m.open)-1]
			m.state = m.atItem
			return false
		}
	case "word", "tag":
		return m.atTag(t)
	}
	return m.fail(t, api.ErrDumpForm)
}

func (m *modelReader) atTag(t modelToken) bool {
	tag, err := dict.ParseTag(t.text)
	if _, known := dict.ByKeyword(t.text); err != nil || t.kind == "word" && !known {
		return m.fail(t, api.ErrDumpTag)
	}
	if printed := dict.PrintTag(tag); strings.Contains("(0000, (0002, (FFFE, (FFFF,", printed[:6]) || printed[6:] == "0000)" {
		return m.fail(t, api.ErrDumpTag)
	}
	if tag <= m.room().last {
		return m.fail(t, api.ErrDumpOrder)
	}
	if len(m.nodes) == 4096 {
		return m.fail(t, api.ErrDumpDeep)
	}
	m.tag = tag
	m.put(api.Node{Tag: tag})
	m.state = m.atVR
	return false
}

func (m *modelReader) atVR(t modelToken) bool {
	m.vr = dict.Default(m.tag)
	if t.kind == "word" {
		told, err := dict.VROf(t.text)
		if _, known := dict.Find(m.tag); err != nil || known && told != m.vr {
			return m.fail(t, api.ErrDumpVR)
		}
		m.vr = told
	}
	m.nodes[len(m.nodes)-1].VR = m.vr
	m.told = nil
	m.state = m.atValue
	return t.kind != "word"
}

func (m *modelReader) atValue(t modelToken) bool {
	wanted := ""
	switch {
	case m.vr == api.VRSQ:
		if t.kind != "{" {
			return m.fail(t, api.ErrDumpForm)
		}
		m.open = append(m.open, modelOpen{node: len(m.nodes) - 1})
		m.state = m.atItem
		return false
	case isOf(m.vr, piecesVRs), isOf(m.vr, proseVRs):
		wanted = "quoted"
	case isOf(m.vr, wholeVRs), isOf(m.vr, floatVRs):
		wanted = "number"
	case isOf(m.vr, tagVRs):
		wanted = "tag"
	}
	if m.told == nil {
		m.first = t
	}
	hex := t.kind == "hex" && m.told == nil
	if t.kind != wanted && !hex {
		return m.fail(t, api.ErrDumpForm)
	}
	one, ok := modelValue(m.vr, t)
	if !ok {
		return m.fail(t, api.ErrDumpValue)
	}
	m.told = append(m.told, one)
	if hex || isOf(m.vr, proseVRs) {
		return m.endValue()
	}
	m.state = m.atMore
	return false
}

func (m *modelReader) atMore(t modelToken) bool {
	if t.kind == `\` {
		m.state = m.atValue
		return false
	}
	m.endValue()
	return true
}

func (m *modelReader) endValue() bool {
	value := strings.Join(m.told, "")
	if isOf(m.vr, piecesVRs) {
		value = strings.Join(m.told, `\`)
	}
	text := isOf(m.vr, piecesVRs) || isOf(m.vr, proseVRs)
	if len(value) > 65534 || text && (strings.HasSuffix(value, " ") || strings.HasSuffix(value, "\x00")) || !text && len(value)%2 == 1 {
		return m.fail(m.first, api.ErrDumpValue)
	}
	m.nodes[len(m.nodes)-1].Value = value
	m.state = m.atElement
	return false
}

func (m *modelReader) atItem(t modelToken) bool {
	if t.kind == "}" {
		m.open = m.open[:len(m.open)-1]
		m.state = m.atElement
		return false
	}
	if t.kind != "word" || t.text != "item" {
		return m.fail(t, api.ErrDumpForm)
	}
	if len(m.open) > 8 || len(m.nodes) == 4096 {
		return m.fail(t, api.ErrDumpDeep)
	}
	m.put(item(0))
	m.state = m.atBrace
	return false
}

func (m *modelReader) atBrace(t modelToken) bool {
	if t.kind != "{" {
		return m.fail(t, api.ErrDumpForm)
	}
	m.open = append(m.open, modelOpen{node: len(m.nodes) - 1})
	m.state = m.atElement
	return false
}

// modelValue tells the bytes that a token of a value stands for; false, if it may not be.
func modelValue(v api.VR, t modelToken) (string, bool) {
	switch t.kind {
	case "hex":
		n, ok := new(big.Int).SetString("1"+t.text[1:], 16)
		return string(n.Bytes()[1:]), ok && len(t.text)%2 == 1
	case "quoted":
		value := modelUnquoted(t.text)
		return value, isOf(v, proseVRs) || !strings.Contains(value, `\`)
	case "tag":
		tag, err := dict.ParseTag(t.text)
		b := binary.LittleEndian.AppendUint16(nil, uint16(tag>>16))
		return string(binary.LittleEndian.AppendUint16(b, uint16(tag))), err == nil
	}
	if isOf(v, floatVRs) {
		return modelFloat(v, t.text)
	}
	return modelWhole(v, t.text)
}

func modelUnquoted(token string) string {
	return escapes.ReplaceAllStringFunc(token[1:len(token)-1], func(escape string) string {
		if escape[1] != 'x' {
			return escape[1:]
		}
		n, _ := strconv.ParseUint(escape[2:], 16, 8)
		return string([]byte{byte(n)})
	})
}

func modelWhole(v api.VR, text string) (string, bool) {
	n, _ := new(big.Int).SetString(text, 10)
	if !wholeForm.MatchString(text) || text == "-0" || n == nil {
		return "", false
	}
	least, most := map[api.VR]int64{api.VRSS: -32768, api.VRSL: -2147483648}[v], map[api.VR]int64{api.VRUS: 65535, api.VRSS: 32767, api.VRUL: 4294967295, api.VRSL: 2147483647}[v]
	if n.Cmp(big.NewInt(least)) < 0 || n.Cmp(big.NewInt(most)) > 0 {
		return "", false
	}
	if isOf(v, "US SS") {
		return string(binary.LittleEndian.AppendUint16(nil, uint16(n.Int64()))), true
	}
	return string(binary.LittleEndian.AppendUint32(nil, uint32(n.Int64()))), true
}

// modelFloat takes the nearest number of an exact fraction.
func modelFloat(v api.VR, text string) (string, bool) {
	if !floatForm.MatchString(text) {
		return "", false
	}
	exact, ok := new(big.Rat).SetString(text)
	if !ok {
		return "", false
	}
	if v == api.VRFL {
		f, _ := exact.Float32()
		bits := math.Float32bits(f)
		if text[0] == '-' {
			bits |= 1 << 31
		}
		return string(binary.LittleEndian.AppendUint32(nil, bits)), !math.IsInf(float64(f), 0)
	}
	f, _ := exact.Float64()
	bits := math.Float64bits(f)
	if text[0] == '-' {
		bits |= 1 << 63
	}
	return string(binary.LittleEndian.AppendUint64(nil, bits)), !math.IsInf(f, 0)
}

// holdModel holds Parse against the model, and what it answers against the rest of P7.3; it tells the model's answer.
func holdModel(t *testing.T, text string) ([]api.Node, api.Errno, int) {
	t.Helper()
	want, code, at := modelParse(text)
	got, err := dump.Parse(text)
	if !is(err, code, at) || !slices.Equal(got, want) || (got == nil) != (len(want) == 0) {
		t.Fatalf("P7.2: %.400q: %s, %v; the model says %s, %d at %d", text, shown(got), err, shown(want), code, at)
	}
	if code == api.OK {
		holdBack(t, got)
	}
	return want, code, at
}

// holdBack fails if what was read is not well formed, or is not read again from what Print writes of it.
func holdBack(t *testing.T, nodes []api.Node) {
	t.Helper()
	if err := dict.Formed(nodes); err != nil {
		t.Fatalf("P7.3: read, but not well formed: %s, %v", shown(nodes), err)
	}
	text, err := dump.Print(nodes)
	if isLong(err) {
		return
	}
	if err != nil || text != modelPrint(nodes) {
		t.Fatalf("P7.1: %s: %.400q, %v; want %.400q", shown(nodes), text, err, modelPrint(nodes))
	}
	if back, err := dump.Parse(text); err != nil || !slices.Equal(back, nodes) {
		t.Fatalf("P7.3: %.400q: %s, %v; want %s", text, shown(back), err, shown(nodes))
	}
}
