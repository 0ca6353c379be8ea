package feed

import (
	"slices"
	"strings"

	"modality/api"
	"modality/value"
)

// Print writes an order as a message (P11.7).
func Print(o api.Order) (string, error) {
	text := orderText(o)
	read, err := Parse(text)
	if err != nil || !isSame(read, o) {
		return "", refusal(0, api.ErrFeedValue)
	}
	return text, nil
}

func isSame(a, b api.Order) bool {
	return a.Control == b.Control && a.Verb == b.Verb && a.Code == b.Code && a.Words == b.Words &&
		slices.Equal(a.Steps, b.Steps) && slices.Equal(a.IDs, b.IDs)
}

// orderText writes an order; one that asks for nothing that can be asked for has a header alone, which nobody reads back.
func orderText(o api.Order) string {
	var b strings.Builder
	b.WriteString("MSH|^~\\&|||||||ORM^O01|" + escaped(o.Control) + "|P|2.3.1||||||UNICODE UTF-8\r")
	switch o.Verb {
	case api.OrderNew:
		writeSteps(&b, "NW", o.Steps)
	case api.OrderChange:
		writeSteps(&b, "XO", o.Steps)
	case api.OrderCancel:
		writeCancel(&b, o.IDs)
	}
	return b.String()
}

// writeCancel writes the segments of a cancellation, with somebody in the patient's place, whom the order does not name.
func writeCancel(b *strings.Builder, ids []string) {
	p := segment{namePID}
	p.put(3, "1")
	p.put(5, "X")
	p.write(b)
	for _, id := range ids {
		c, r := segment{nameORC}, segment{nameOBR}
		c.put(1, "CA")
		c.write(b)
		r.put(20, id)
		r.write(b)
	}
}

// writeSteps writes the patient of the first step, and a group for each.
func writeSteps(b *strings.Builder, verb string, steps []api.Step) {
	for i, s := range steps {
		if i == 0 {
			writePatient(b, s)
		}
		writeGroup(b, verb, s)
	}
}

func writePatient(b *strings.Builder, s api.Step) {
	p := segment{namePID}
	p.put(3, s.PatientID, "", "", s.Issuer)
	p.put(5, nameParts(s.PatientName)...)
	p.put(7, s.Birth)
	p.put(8, s.Sex)
	p.write(b)
	if s.Referrer != "" || s.Location != "" {
		v := segment{namePV1}
		v.put(3, s.Location)
		v.put(8, append([]string{""}, nameParts(s.Referrer)...)...)
		v.write(b)
	}
}

func writeGroup(b *strings.Builder, verb string, s api.Step) {
	c := segment{nameORC}
	c.put(1, verb)
	c.put(7, "", "", "", s.Date+s.Time)
	c.write(b)
	r := segment{nameOBR}
	r.put(4, "", s.ProcedureDesc, "", "", s.Desc)
	r.put(18, s.Accession)
	r.put(19, s.Procedure)
	r.put(20, s.ID)
	r.put(21, s.Station, s.StationName)
	r.put(24, s.Modality)
	r.put(34, append([]string{""}, nameParts(s.Performer)...)...)
	r.write(b)
	z := segment{nameZDS}
	z.put(1, s.Study)
	z.write(b)
}

// nameParts gives the components of a name in the feed's order. A text that is no name has none, and so is not read back.
func nameParts(text string) []string {
	n, _ := value.ParseName(text)
	parts := turned(n.Part[0])
	return parts[:]
}

// segment is one that is written: its fields, the name ahead.
type segment []string

// put puts a field's components behind the fields that are there.
func (s *segment) put(field int, components ...string) {
	for len(*s) < field {
		*s = append(*s, "")
	}
	var pieces []string
	for _, c := range components {
		pieces = append(pieces, escaped(c))
	}
	*s = append(*s, joined(pieces, ourMarks[markComponent:markComponent+1]))
}

func (s segment) write(b *strings.Builder) {
	b.WriteString(joined(s, ourMarks[:markComponent]))
	b.WriteByte(segmentEnd)
}

// joined puts pieces together, up to the last that is not "".
func joined(pieces []string, mark string) string {
	last := len(pieces)
	for last > 0 && pieces[last-1] == "" {
		last--
	}
	return strings.Join(pieces[:last], mark)
}
