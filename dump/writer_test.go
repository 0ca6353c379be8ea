package dump_test

import (
	"encoding/binary"
	"encoding/hex"
	"fmt"
	"math"
	"math/rand"
	"strconv"
	"strings"
	"unicode/utf8"

	"modality/api"
	"modality/dict"
)

// modelPrint writes a well-formed data set by the words of P7.1, going over the flat list with a count of what each level still wants.
func modelPrint(nodes []api.Node) string {
	var text strings.Builder
	var left []int // of the sequences and items around, from the outermost on
	for _, n := range nodes {
		spaces := strings.Repeat("  ", len(left))
		if len(left) > 0 {
			left[len(left)-1]--
		}
		if n.Tag == api.TagItem {
			text.WriteString(spaces + "item ")
		} else {
			fmt.Fprintf(&text, "%s(%04X,%04X) %s ", spaces, uint32(n.Tag)>>16, uint32(n.Tag)&0xFFFF, dict.VRWord(n.VR))
		}
		switch {
		case n.N > 0:
			text.WriteString("{")
			left = append(left, n.N)
		case n.VR == api.VRSQ || n.VR == api.VRItem:
			text.WriteString("{}")
		default:
			text.WriteString(modelText(n.VR, n.Value))
		}
		text.WriteString("\n")
		for len(left) > 0 && left[len(left)-1] == 0 {
			left = left[:len(left)-1]
			text.WriteString(strings.Repeat("  ", len(left)) + "}\n")
		}
	}
	return text.String()
}

// modelText writes a Value.
func modelText(v api.VR, value string) string {
	var told []string
	switch unit := modelUnit(v); {
	case isOf(v, piecesVRs):
		for _, piece := range strings.Split(value, `\`) {
			told = append(told, modelQuoted(piece))
		}
	case isOf(v, proseVRs):
		told = append(told, modelQuoted(value))
	case unit > 0 && len(value)%unit == 0:
		for i := 0; i < len(value); i += unit {
			told = append(told, modelNumber(v, []byte(value[i:i+unit])))
		}
	}
	text := strings.Join(told, `\`)
	if text == "" || strings.Contains(text, "Inf") && isOf(v, floatVRs) || strings.Contains(text, "NaN") && isOf(v, floatVRs) {
		return "x" + hex.EncodeToString([]byte(value))
	}
	return text
}

func modelUnit(v api.VR) int {
	return map[string]int{"US": 2, "SS": 2, "UL": 4, "SL": 4, "FL": 4, "FD": 8, "AT": 4}[dict.VRWord(v)]
}

func modelNumber(v api.VR, b []byte) string {
	low := binary.LittleEndian
	switch dict.VRWord(v) {
	case "US":
		return fmt.Sprint(low.Uint16(b))
	case "SS":
		return fmt.Sprint(int16(low.Uint16(b)))
	case "UL":
		return fmt.Sprint(low.Uint32(b))
	case "SL":
		return fmt.Sprint(int32(low.Uint32(b)))
	case "FL":
		return strconv.FormatFloat(float64(math.Float32frombits(low.Uint32(b))), 'g', -1, 32)
	case "FD":
		return strconv.FormatFloat(math.Float64frombits(low.Uint64(b)), 'g', -1, 64)
	}
	return fmt.Sprintf("(%04X,%04X)", low.Uint16(b), low.Uint16(b[2:]))
}

// modelQuoted quotes character by character: what is one is tried from one byte on.
func modelQuoted(value string) string {
	var text strings.Builder
	for value != "" {
		size := 1
		for size < 4 && size < len(value) && !utf8.ValidString(value[:size]) {
			size++
		}
		valid := utf8.ValidString(value[:size])
		switch c := value[0]; {
		case c == '"':
			text.WriteString(`\"`)
		case c == '\\':
			text.WriteString(`\\`)
		case c < 32 || c == 127 || !valid:
			fmt.Fprintf(&text, `\x%02x`, c)
			size = 1
		default:
			text.WriteString(value[:size])
		}
		value = value[size:]
	}
	return `"` + text.String() + `"`
}

// typist writes data sets as someone might type them: by keywords or tags, with VRs or without, in any layout.
type typist struct {
	*rand.Rand
	text strings.Builder
}

// typed gives a text of a well-formed data set that Parse must read as it.
func typed(r *rand.Rand, nodes []api.Node) string {
	p := &typist{Rand: r}
	p.level(forest(nodes))
	p.blank()
	return p.text.String()
}

func (p *typist) level(trees []tree) {
	for _, one := range trees {
		switch n := one.node; {
		case n.VR == api.VRItem:
			p.token("item")
			p.braces(one.kids)
		case n.VR == api.VRSQ:
			p.name(n)
			p.braces(one.kids)
		default:
			p.name(n)
			p.value(n)
		}
	}
}

func (p *typist) braces(kids []tree) {
	p.token("{")
	p.level(kids)
	p.token("}")
}

func (p *typist) name(n api.Node) {
	word := dict.PrintTag(n.Tag)
	if e, known := dict.Find(n.Tag); known && e.Tag == n.Tag && p.Intn(2) == 0 {
		word = e.Keyword
	} else if p.Intn(2) == 0 {
		word = strings.ToLower(word)
	}
	p.token(word)
	if n.VR != dict.Default(n.Tag) || p.Intn(2) == 0 {
		p.token(dict.VRWord(n.VR))
	}
}

// value writes a Value in its form, or as bytes, as the typist likes.
func (p *typist) value(n api.Node) {
	own := modelText(n.VR, n.Value)
	if own[0] == 'x' || p.Intn(4) == 0 {
		digits := hex.EncodeToString([]byte(n.Value))
		if p.Intn(2) == 0 {
			digits = strings.ToUpper(digits)
		}
		p.token("x" + digits)
		return
	}
	tokens, _ := modelCut(own)
	for _, t := range tokens {
		switch {
		case t.kind == "quoted":
			p.token(p.quoted(modelUnquoted(t.text)))
		case t.kind == "number" && isOf(n.VR, floatVRs):
			p.token(p.float(t.text, 8*modelUnit(n.VR)))
		case t.kind != "end":
			p.token(t.text)
		}
	}
}

// quoted puts escapes where some must be and where some may be.
func (p *typist) quoted(value string) string {
	text := `"`
	for i := range len(value) {
		c := value[i]
		switch {
		case c < 32 || c == 127 || p.Intn(8) == 0:
			text += fmt.Sprintf([]string{`\x%02x`, `\x%02X`}[p.Intn(2)], c)
		case c == '"' || c == '\\':
			text += `\` + value[i:i+1]
		default:
			text += value[i : i+1]
		}
	}
	return text + `"`
}

// float writes a number in another form, from which it is the nearest too.
func (p *typist) float(text string, bits int) string {
	f, err := strconv.ParseFloat(text, bits)
	if err != nil {
		panic(err)
	}
	switch p.Intn(4) {
	case 0:
		return strconv.FormatFloat(f, 'f', -1, bits)
	case 1:
		return strconv.FormatFloat(f, 'e', 30, bits)
	case 2:
		sign, digits := "", text
		if text[0] == '-' {
			sign, digits = "-", text[1:]
		}
		return sign + "000" + digits
	}
	return text
}

// token puts a blank ahead where one must be, and else where the typist likes.
func (p *typist) token(text string) {
	before := p.text.String()
	glued := before != "" && isOneOf(before[len(before)-1]) && isOneOf(text[0])
	if p.Intn(2) == 0 || glued {
		p.blank()
	}
	if now := p.text.String(); glued && now == before {
		p.text.WriteString(" ")
	}
	p.text.WriteString(text)
}

func isOneOf(c byte) bool {
	return c >= '0' && c <= '9' || c >= 'A' && c <= 'Z' || c >= 'a' && c <= 'z' || strings.IndexByte(".+-", c) >= 0
}

func (p *typist) blank() {
	for range p.Intn(3) {
		p.text.WriteString([]string{" ", "\n", "\t", "\r\n", "#\n", "# a remark; (\"\\ \r #\n"}[p.Intn(6)])
	}
}
