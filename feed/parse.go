package feed

import (
	"modality/api"
	"modality/charset"
)

// message is one that Split has cut, with what its header says of how it is read.
type message struct {
	segments [][]string
	marks    string
	set      *charset.Set
}

// The header's fields.
const (
	fieldMark    = 1
	fieldMarks   = 2
	fieldKind    = 9
	fieldControl = 10
	fieldUse     = 11 // for production, training, debugging
	fieldVersion = 12
	fieldCharset = 18
)

// Parse reads an order message (P11.4 to P11.6).
func Parse(text string) (api.Order, error) {
	m, f := readMessage(text)
	if f.found() {
		return refused("", codeReject, f)
	}
	control, f := m.control()
	if f.found() {
		return refused("", codeReject, f)
	}
	if !m.isServed() {
		return refused(control, codeReject, flaw{0, api.ErrFeedKind})
	}
	o, f := m.order()
	if f.found() {
		return refused(control, codeError, f)
	}
	o.Control = control
	return o, nil
}

// refused tells why a message is refused, for the acknowledgement and for the caller.
func refused(control, code string, f flaw) (api.Order, error) {
	told := reasonWords[f.reason-api.ErrFeedHead]
	return api.Order{Control: control, Code: code, Words: told}, refusal(f.at, f.reason)
}

// readMessage cuts a message that is not too long.
func readMessage(text string) (*message, flaw) {
	if len(text) > api.MaxMessage {
		return nil, flaw{0, api.ErrFeedLong}
	}
	segments, f := split(text)
	if f.found() {
		return nil, f
	}
	head := segments[0]
	return &message{segments: segments, marks: head[fieldMark] + head[fieldMarks]}, flaw{}
}

// control reads the control ID.
func (m *message) control() (string, flaw) {
	id, _, ok := plain(m.marks, m.header(fieldControl, 1))
	switch {
	case !ok:
		return "", flaw{0, api.ErrFeedEscape}
	case id == "" || !isControl(id):
		return "", flaw{0, api.ErrFeedControl}
	}
	return id, flaw{}
}

// isControl tells whether a text may be a control ID, or none.
func isControl(id string) bool { return len(id) <= api.MaxControl && isPrintable(id) }

func isPrintable(text string) bool {
	for _, r := range text {
		if r < 0x20 || r > 0x7E {
			return false
		}
	}
	return true
}

// isServed tells whether the message is of the kind, the version and the use that are read here.
func (m *message) isServed() bool {
	if m.header(fieldKind, 1) != "ORM" || m.header(fieldKind, 2) != "O01" {
		return false
	}
	switch m.header(fieldVersion, 1) {
	case "2.1", "2.2", "2.3", "2.3.1", "2.4", "2.5", "2.5.1":
	default:
		return false
	}
	switch m.header(fieldUse, 1) {
	case "P", "T", "D":
		return true
	}
	return false
}

// header gives a component of a header's field, as it stands.
func (m *message) header(field, component int) string { return m.component(0, field, component) }

// component gives a component of a segment's field, as it stands; of several repetitions and subcomponents the first.
func (m *message) component(segment, field, component int) string {
	fields := m.segments[segment]
	if field >= len(fields) {
		return ""
	}
	first := pieceOf(fields[field], m.marks[markRepetition], 0)
	whole := pieceOf(first, m.marks[markComponent], component-1)
	return pieceOf(whole, m.marks[markSub], 0)
}

// order reads what the message orders.
func (m *message) order() (api.Order, flaw) {
	term, ok := termOf(m.header(fieldCharset, 1))
	if !ok {
		return api.Order{}, flaw{0, api.ErrFeedCharset}
	}
	m.set, _ = charset.New([]string{term})
	l, f := m.layout()
	if f.found() {
		return api.Order{}, f
	}
	verb, f := m.verb(l.groups)
	if f.found() {
		return api.Order{}, f
	}
	if len(l.groups) > api.MaxGroup {
		return api.Order{}, flaw{l.groups[api.MaxGroup][inORC], api.ErrFeedMany}
	}
	return m.values(verb, l)
}

// termOf gives the character set that layer 4 has for the header's.
func termOf(name string) (term string, ok bool) {
	switch name {
	case "", "ASCII":
		return "ISO_IR 6", true
	case "8859/1":
		return "ISO_IR 100", true
	case "8859/2":
		return "ISO_IR 101", true
	case "8859/5":
		return "ISO_IR 144", true
	case "8859/7":
		return "ISO_IR 126", true
	case "8859/9":
		return "ISO_IR 148", true
	case "UNICODE UTF-8":
		return "ISO_IR 192", true
	}
	return "", false
}
