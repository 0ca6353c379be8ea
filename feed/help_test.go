package feed_test

import (
	"fmt"
	"reflect"
	"strings"
	"testing"

	"modality/api"
	"modality/feed"
)

// is tells whether an error is this layer's fault with this number at this place; OK: no error.
func is(err error, code api.Errno, at int) bool {
	if code == api.OK {
		return err == nil
	}
	f, ok := err.(*api.Fault)
	return ok && f != nil && f.Layer == "feed" && f.At == at && f.Err == error(code)
}

func same(a, b any) bool { return reflect.DeepEqual(a, b) }

// shown tells the beginning of anything.
func shown(x any) string { return fmt.Sprintf("%.1500s", fmt.Sprintf("%+q", x)) }

// order is an order with something in every field.
func order() api.Order {
	return api.Order{Control: "42", Verb: api.OrderNew, Steps: []api.Step{{
		ID: "S1", Accession: "A1", Procedure: "RP1", ProcedureDesc: "Head", Study: "1.2.3", PatientName: "Doe^Jane^Q^Dr^Jr",
		PatientID: "P1", Issuer: "H", Birth: "19700101", Sex: "F", Referrer: "Smith^Ann^R^Prof^Sr", Modality: "MR",
		Station: "SCAN1", StationName: "Room", Location: "W1", Date: "20240131", Time: "120000", Performer: "Tech^Tom^T^Mr^III",
		Desc: "Step", Status: api.StepScheduled,
	}}}
}

// draft is a message that is put together by hand: its segments' fields as they stand; the header's are numbered like all.
type draft struct {
	marks    string
	segments [][]string
}

// at gives a segment's number by its name, the last one of that name.
func (d *draft) at(name string) int {
	for i := len(d.segments) - 1; i >= 0; i-- {
		if d.segments[i][0] == name {
			return i
		}
	}
	return -1
}

// field puts a whole field into a segment, as it stands.
func (d *draft) field(segment, number int, text string) {
	for len(d.segments[segment]) <= number {
		d.segments[segment] = append(d.segments[segment], "")
	}
	d.segments[segment][number] = text
}

// component puts a component into a field, the others as they were.
func (d *draft) component(segment, field, number int, text string) {
	for len(d.segments[segment]) <= field {
		d.segments[segment] = append(d.segments[segment], "")
	}
	parts := strings.Split(d.segments[segment][field], d.marks[1:2])
	for len(parts) < number {
		parts = append(parts, "")
	}
	parts[number-1] = text
	d.segments[segment][field] = strings.Join(parts, d.marks[1:2])
}

func (d *draft) text() string {
	var b strings.Builder
	for i, s := range d.segments {
		if i == 0 {
			b.WriteString("MSH" + d.marks + d.marks[:1] + strings.Join(s[3:], d.marks[:1]) + "\r")
			continue
		}
		b.WriteString(strings.Join(s, d.marks[:1]) + "\r")
	}
	return b.String()
}

func (d *draft) clone() *draft {
	c := &draft{marks: d.marks}
	for _, s := range d.segments {
		c.segments = append(c.segments, append([]string(nil), s...))
	}
	return c
}

// cut takes a message apart into a draft.
func cut(text string) *draft {
	d := &draft{marks: text[3:8]}
	for i, line := range strings.Split(strings.TrimSuffix(text, "\r"), "\r") {
		fields := strings.Split(line, text[3:4])
		if i == 0 {
			fields = append([]string{"MSH", text[3:4]}, fields[1:]...)
		}
		d.segments = append(d.segments, fields)
	}
	return d
}

const (
	head    = "MSH|^~\\&|HIS|H|||20240101||ORM^O01|42|P|2.3.1\r"
	patient = "PID|1||P1^^^H||Doe^Jane^Q^Jr^Dr||19700101|F\r"
	visit   = "PV1||O|W1|||||4711^Smith^Ann^R^Sr^Prof\r"
	group   = "ORC|NW|||||^x|^^^202401311200\rOBR||||c^Head^L^x^Step||||||||||||||A1|RP1|S1|SCAN1^Room|||MR||||||||||9^Tech^Tom^T^III^Mr\rZDS|1.2.3^^Application^DICOM\r"
	whole   = head + patient + visit + group
)

// wantParse holds Parse of a text against the second reader.
func wantParse(t *testing.T, what, text string) {
	t.Helper()
	want, code, at := modelParse(text)
	got, err := feed.Parse(text)
	if !is(err, code, at) || !same(got, want) {
		t.Fatalf("%s: Parse(%q) = %s, %v\nwant %s, errno %d at %d", what, text, shown(got), err, shown(want), code, at)
	}
}

func TestDraft(t *testing.T) {
	if got := cut(whole).text(); got != whole {
		t.Fatalf("%q", got)
	}
}
