package feed_test

import (
	"fmt"
	"regexp"
	"strings"
	"time"

	"modality/api"
	"modality/charset"
	"modality/value"
)

// The second reader: the document's tables as text, and what they say in another way.

// headerTable: the header's checks behind Split, in their order (P11.4).
const (
	kinds    = "ORM^O01"
	versions = " 2.1 2.2 2.3 2.3.1 2.4 2.5 2.5.1 "
	uses     = " P T D "
	charsets = `
=ISO_IR 6
ASCII=ISO_IR 6
8859/1=ISO_IR 100
8859/2=ISO_IR 101
8859/5=ISO_IR 144
8859/7=ISO_IR 126
8859/9=ISO_IR 148
UNICODE UTF-8=ISO_IR 192
`
)

// wordsTable: an acknowledgement's words (P11.8).
const wordsTable = `
220 no header
221 not served
222 no control ID
223 character set
224 text
225 escape
226 segment
227 order control
228 too many orders
229 value
230 too long
`

// fieldTable: the fields in the order in which they are looked at (P11.6).
const fieldTable = `
PatientID     PID  3 1 needed
Issuer        PID  3 4 -
PatientName   PID  5 1 name
Birth         PID  7 1 birth
Sex           PID  8 1 sex
Referrer      PV1  8 2 anyname
Location      PV1  3 1 -
ID            OBR 20 1 id
Accession     OBR 18 1 -
Procedure     OBR 19 1 needed
ProcedureDesc OBR  4 2 -
Desc          OBR  4 5 desc
Modality      OBR 24 1 needed
Station       OBR 21 1 needed
StationName   OBR 21 2 -
Performer     OBR 34 2 anyname
Date          ORC  7 4 start
Study         ZDS  1 1 needed
`

type tableRow struct {
	name             string
	segment          string
	field, component int
	rule             string
}

func tableRows() (rows []tableRow) {
	for _, line := range strings.Split(strings.TrimSpace(fieldTable), "\n") {
		var r tableRow
		if _, err := fmt.Sscan(line, &r.name, &r.segment, &r.field, &r.component, &r.rule); err != nil {
			panic(err)
		}
		rows = append(rows, r)
	}
	return rows
}

// components tells how many components a row has.
func (r tableRow) components() int {
	if strings.HasSuffix(r.rule, "name") {
		return 5
	}
	return 1
}

func modelWords(code api.Errno) string {
	for _, line := range strings.Split(strings.TrimSpace(wordsTable), "\n") {
		if n, told, _ := strings.Cut(line, " "); n == fmt.Sprint(int(code)) {
			return told
		}
	}
	return "?"
}

// stop is how the second reader refuses.
type stop struct {
	code api.Errno
	at   int
}

func refuse(code api.Errno, at int) { panic(stop{code, at}) }

// modelParse reads a message; what was read of the order is let go with a refusal, but for its control ID.
func modelParse(text string) (o api.Order, code api.Errno, at int) {
	control, ack := "", "AR"
	defer func() {
		if x := recover(); x != nil {
			s := x.(stop)
			o, code, at = api.Order{Control: control, Code: ack, Words: modelWords(s.code)}, s.code, s.at
		}
	}()
	if len(text) > 16384 {
		refuse(api.ErrFeedLong, 0)
	}
	segments, code, at := modelSplit(text)
	if code != api.OK {
		refuse(code, at)
	}
	m := modelMessage{segments: segments, marks: segments[0][1] + segments[0][2]}
	id, _, ok := modelPlain(m.marks, m.piece(0, 10, 1))
	if !ok {
		refuse(api.ErrFeedEscape, 0)
	}
	if !controlForm.MatchString(id) {
		refuse(api.ErrFeedControl, 0)
	}
	control = id
	if m.piece(0, 9, 1)+"^"+m.piece(0, 9, 2) != kinds || !isOneOf(versions, m.piece(0, 12, 1)) || !isOneOf(uses, m.piece(0, 11, 1)) {
		refuse(api.ErrFeedKind, 0)
	}
	ack = "AE"
	m.set = m.charset()
	o = m.order()
	o.Control = control
	return o, api.OK, 0
}

func isOneOf(list, word string) bool {
	return word != "" && !strings.Contains(word, " ") && strings.Contains(list, " "+word+" ")
}

var (
	headForm    = regexp.MustCompile(`^\n?MSH([!-~])([!-~])([!-~])([!-~])([!-~])([!-~])`)
	controlForm = regexp.MustCompile(`^[ -~]{1,20}$`)
	spacesForm  = regexp.MustCompile(`^ *(.*?) *$`)
	sexForm     = regexp.MustCompile(`^[MFOU]?$`)
	startForm   = regexp.MustCompile(`^(\d{8})(([01]\d|2[0-3])[0-5]\d)([0-5]\d|60)?$`)
	allRows     = tableRows()
)

// modelSplit cuts a message.
func modelSplit(text string) (segments [][]string, code api.Errno, at int) {
	found := headForm.FindStringSubmatch(text)
	if found == nil || found[6] != found[1] {
		return nil, api.ErrFeedHead, 0
	}
	marks := strings.Join(found[1:6], "")
	for i, r := range marks {
		if strings.ContainsRune("ABCDEFGHIJKLMNOPQRSTUVWXYZabcdefghijklmnopqrstuvwxyz0123456789", r) || strings.LastIndex(marks, string(r)) != i {
			return nil, api.ErrFeedHead, 0
		}
	}
	mark := marks[:1]
	for i, line := range strings.Split(text, "\r") {
		if strings.HasPrefix(line, "\n") {
			line = line[1:]
		}
		if line == "" {
			continue
		}
		if len(line) < 3 || len(line) > 3 && line[3:4] != mark {
			return nil, api.ErrFeedSegment, len(segments)
		}
		fields := strings.Split(line, mark)
		if i == 0 {
			fields = append([]string{"MSH", mark}, fields[1:]...)
		}
		segments = append(segments, fields)
	}
	return segments, api.OK, 0
}

var escapeForms = map[byte]*regexp.Regexp{} // by the escape mark

// modelPlain reads a piece, or tells the offset of an escape mark that begins no escape.
func modelPlain(marks, piece string) (string, int, bool) {
	form := escapeForms[marks[3]]
	if form == nil {
		e := regexp.QuoteMeta(marks[3:4])
		form = regexp.MustCompile(`^` + e + `(?:([FSRET])|X((?:[0-9A-Fa-f][0-9A-Fa-f])+))` + e)
		escapeForms[marks[3]] = form
	}
	told := ""
	for at := 0; at < len(piece); {
		if piece[at] != marks[3] {
			told += piece[at : at+1]
			at++
			continue
		}
		found := form.FindStringSubmatch(piece[at:])
		if found == nil {
			return "", at, false
		}
		for i, letter := range []string{"F", "S", "R", "E", "T"} {
			if found[1] == letter {
				told += marks[i : i+1]
			}
		}
		for i := 0; i < len(found[2]); i += 2 {
			var c byte
			fmt.Sscanf(found[2][i:i+2], "%x", &c)
			told += string([]byte{c})
		}
		at += len(found[0])
	}
	return told, 0, true
}

type modelMessage struct {
	segments [][]string
	marks    string
	set      *charset.Set
}

// piece gives a component as it stands.
func (m modelMessage) piece(segment, field, component int) string {
	if field >= len(m.segments[segment]) {
		return ""
	}
	text, _, _ := strings.Cut(m.segments[segment][field], m.marks[2:3])
	list := strings.Split(text, m.marks[1:2])
	if component > len(list) {
		return ""
	}
	text, _, _ = strings.Cut(list[component-1], m.marks[4:5])
	return text
}

func (m modelMessage) charset() *charset.Set {
	for _, line := range strings.Split(charsets[1:len(charsets)-1], "\n") {
		if name, term, _ := strings.Cut(line, "="); name == m.piece(0, 18, 1) {
			s, err := charset.New([]string{term})
			if err != nil {
				panic(err)
			}
			return s
		}
	}
	refuse(api.ErrFeedCharset, 0)
	return nil
}

// letters gives a letter for each segment: a point for one that is let go.
func (m modelMessage) letters() string {
	var b strings.Builder
	for _, s := range m.segments {
		i := strings.Index("MSHPIDPV1ORCOBRZDS", s[0])
		if len(s[0]) != 3 || i < 0 || i%3 != 0 {
			b.WriteByte('.')
			continue
		}
		b.WriteByte("MPVCBZ"[i/3])
	}
	return b.String()
}

var layoutForm = regexp.MustCompile(`^M\.*P\.*(V\.*)?(C\.*B\.*(Z\.*)?)+$`)

// canGoOn tells whether letters are a beginning of a message's.
func canGoOn(letters string) bool {
	for _, rest := range []string{"", "B", "CB", "PCB", "MPCB"} {
		if layoutForm.MatchString(letters + rest) {
			return true
		}
	}
	return false
}

// order reads what the message orders.
func (m modelMessage) order() api.Order {
	letters := m.letters()
	for i := range letters {
		if !canGoOn(letters[:i+1]) {
			refuse(api.ErrFeedSegment, i)
		}
	}
	if !layoutForm.MatchString(letters) {
		refuse(api.ErrFeedSegment, len(letters))
	}
	var verbs []string
	for i := range letters {
		if letters[i] == 'C' {
			verbs = append(verbs, m.piece(i, 1, 1))
			if v := m.piece(i, 1, 1); !isOneOf(" NW XO CA ", v) || v != verbs[0] {
				refuse(api.ErrFeedVerb, i)
			}
		}
	}
	for i := range letters {
		if letters[i] == 'C' && strings.Count(letters[:i], "C") == 8 {
			refuse(api.ErrFeedMany, i)
		}
	}
	return m.values(letters, verbs[0])
}

func (m modelMessage) values(letters, verb string) api.Order {
	base := map[string]string{}
	for _, r := range allRows[:7] {
		m.look(r, base, strings.Index(letters, "P"), strings.Index(letters, "V"))
	}
	var ids []string
	var steps []api.Step
	for i := range letters {
		if letters[i] != 'C' {
			continue
		}
		texts := map[string]string{}
		for k, v := range base {
			texts[k] = v
		}
		end := len(letters)
		if n := strings.IndexByte(letters[i+1:], 'C'); n >= 0 {
			end = i + 1 + n
		}
		find := func(letter string) int {
			if n := strings.Index(letters[i:end], letter); n >= 0 {
				return i + n
			}
			return -1
		}
		for _, r := range allRows[7:] {
			m.look(r, texts, i, find(map[string]string{"ORC": "C", "OBR": "B", "ZDS": "Z"}[r.segment]))
			if r.name == "ID" && contains(ids, texts["ID"]) {
				refuse(api.ErrFeedValue, find("B"))
			}
			if r.name == "ID" && verb == "CA" {
				break
			}
		}
		ids = append(ids, texts["ID"])
		steps = append(steps, modelStep(texts))
	}
	if verb == "CA" {
		return api.Order{Verb: 3, IDs: ids}
	}
	return api.Order{Verb: map[string]int{"NW": 1, "XO": 2}[verb], Steps: steps}
}

func contains(list []string, s string) bool {
	for _, x := range list {
		if x == s {
			return true
		}
	}
	return false
}

// look reads a row from a segment (below 0: it is not there) into texts. instead is the segment that is told where that one is not there.
func (m modelMessage) look(r tableRow, texts map[string]string, instead, segment int) {
	if r.segment == "PID" {
		segment = instead
	}
	var v []string
	for c := range r.components() {
		if segment < 0 {
			v = append(v, "")
			continue
		}
		raw, _, ok := modelPlain(m.marks, m.piece(segment, r.field, r.component+c))
		if !ok {
			refuse(api.ErrFeedEscape, segment)
		}
		text, err := m.set.Decode(api.CharWord, []byte(raw))
		if err != nil {
			refuse(api.ErrFeedText, segment)
		}
		if strings.ContainsRune(text, '\\') {
			refuse(api.ErrFeedValue, segment)
		}
		v = append(v, spacesForm.FindStringSubmatch(text)[1])
	}
	if segment < 0 {
		segment = instead
	}
	if !modelRule(r, texts, v) {
		refuse(api.ErrFeedValue, segment)
	}
}

// modelRule puts a row's values into texts, and tells whether they may be so.
func modelRule(r tableRow, texts map[string]string, v []string) bool {
	texts[r.name] = v[0]
	switch r.rule {
	case "needed":
		return v[0] != ""
	case "id":
		return len(v[0]) >= 1 && len(v[0]) <= 16
	case "sex":
		texts[r.name] = strings.Trim(v[0], "U")
		return sexForm.MatchString(v[0])
	case "birth":
		if len(v[0]) > 8 {
			texts[r.name] = v[0][:8]
		}
		return v[0] == "" || modelIsDay(texts[r.name])
	case "desc":
		if v[0] == "" {
			texts[r.name] = texts["ProcedureDesc"]
		}
	case "start":
		found := startForm.FindStringSubmatch(v[0])
		if found == nil || !modelIsDay(found[1]) {
			return false
		}
		texts["Date"], texts["Time"] = found[1], (found[2] + found[4] + "00")[:6]
	case "name", "anyname":
		if strings.Join(v, "") == "" {
			return r.rule == "anyname"
		}
		text, err := value.PrintName(api.Name{Part: [3][5]string{{v[0], v[1], v[2], v[4], v[3]}}})
		texts[r.name] = text
		return v[0] != "" && err == nil
	}
	return true
}

func modelIsDay(s string) bool {
	d, err := time.Parse("20060102", s)
	return err == nil && d.Year() > 0 && len(s) == 8
}

func modelStep(x map[string]string) api.Step {
	return api.Step{
		ID: x["ID"], Accession: x["Accession"], Procedure: x["Procedure"], ProcedureDesc: x["ProcedureDesc"], Study: x["Study"],
		PatientName: x["PatientName"], PatientID: x["PatientID"], Issuer: x["Issuer"], Birth: x["Birth"], Sex: x["Sex"],
		Referrer: x["Referrer"], Modality: x["Modality"], Station: x["Station"], StationName: x["StationName"],
		Location: x["Location"], Date: x["Date"], Time: x["Time"], Performer: x["Performer"], Desc: x["Desc"], Status: 1,
	}
}
