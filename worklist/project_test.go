package worklist_test

import (
	"testing"

	"modality/api"
	"modality/worklist"
)

func wantProject(t *testing.T, s api.Step, keys, want []api.Node) {
	t.Helper()
	if got := worklist.Project(s, keys); !same(got, want) {
		t.Errorf("P13.4: by %s: %s, not %s", shown(keys), shown(got), shown(want))
	}
}

// all is (0040,0100) with all that is known of a step.
func all(s api.Step) []api.Node {
	var nodes []api.Node
	for _, l := range linesOf(stepTable) {
		nodes = append(nodes, api.Node{Tag: l.tag, VR: l.vr, Value: l.text(s)})
	}
	return steps(nodes...)
}

func TestProjectExamples(t *testing.T) {
	s := s1()
	wantProject(t, s, nil, nil)
	wantProject(t, s, []api.Node{}, nil)
	wantProject(t, s, list(el(api.TagPatientName, "doe*"), steps(el(api.TagModality, "CT"), el(api.TagStepID, ""))), list(el(api.TagPatientName, "Doe^Jane"), steps(el(api.TagModality, "CT"), el(api.TagStepID, "S1"))))
	wantProject(t, s, list(el(api.TagSteps, "")), all(s))
	wantProject(t, s, list(el(api.TagModality, "MR")), list(el(api.TagModality, "")))
	wantProject(t, s, seq(0x00321064, el(api.TagCodeValue, "X")), list(el(0x00321064, "")))
}

// TestProjectFields: each known key tells its own field, where it is known, whatever its value.
func TestProjectFields(t *testing.T) {
	for place, table := range []string{topTable, stepTable} {
		for _, l := range linesOf(table) {
			if l.isSequence() {
				continue
			}
			for _, value := range []string{"", "x", "20260105", "-", l.text(full())} {
				keys := list(el(l.tag, value))
				known, blank := list(el(l.tag, l.text(full()))), list(el(l.tag, ""))
				if place == 1 {
					known, blank = blank, known
				}
				wantProject(t, full(), keys, known)
				wantProject(t, full(), steps(keys...), steps(blank...))
			}
		}
	}
}

// TestProjectItems: how the item of (0040,0100) is told.
func TestProjectItems(t *testing.T) {
	s := full()
	head := func(n int) api.Node { return api.Node{Tag: api.TagSteps, VR: api.VRSQ, N: n} }
	wantProject(t, s, list(head(0)), all(s))
	wantProject(t, s, list(head(1), item(0)), all(s))
	wantProject(t, s, list(el(api.TagAccession, "9"), head(0), el(api.TagProcedureID, "9")), list(el(api.TagAccession, "A1"), all(s), el(api.TagProcedureID, "RP1")))
	wantProject(t, s, list(el(api.TagAccession, "9"), head(1), item(0), el(api.TagProcedureID, "9")), list(el(api.TagAccession, "A1"), all(s), el(api.TagProcedureID, "RP1")))
	// Look refuses more than one item; here the first is the one that names.
	wantProject(t, s, list(head(2), item(1), el(api.TagStepID, ""), item(1), el(api.TagModality, ""), el(api.TagProcedureID, "")), list(steps(el(api.TagStepID, "S7")), el(api.TagProcedureID, "RP1")))
	wantProject(t, s, list(head(3), item(1), el(api.TagStepID, ""), item(0), item(1), el(api.TagModality, "")), steps(el(api.TagStepID, "S7")))
	wantProject(t, s, list(head(2), item(0), item(0)), all(s))
	// An item whose elements are none of the known ones names these.
	wantProject(t, s, steps(el(api.TagPatientName, "x")), steps(el(api.TagPatientName, "")))
	// What stands in items of the step's item is let go.
	inner := list(head(1), item(3), seq(api.TagProtocolCodes, el(api.TagCodeValue, "X"), el(api.TagCodeScheme, "Y")), el(api.TagStepID, ""), steps(el(api.TagModality, "CT")), el(api.TagProcedureID, ""))
	wantProject(t, s, inner, list(steps(el(api.TagProtocolCodes, ""), el(api.TagStepID, "S7"), el(api.TagSteps, "")), el(api.TagProcedureID, "RP1")))
	// So is what stands in items of other sequences, (0040,0100) in them too.
	wantProject(t, s, list(api.Node{Tag: api.TagRefStudies, VR: api.VRSQ, N: 2}, item(1), steps(el(api.TagStepID, "")), item(1), el(api.TagAccession, "x"), el(api.TagPatientID, "")), list(el(api.TagRefStudies, ""), el(api.TagPatientID, "P1")))
}

// TestProjectUnknown: the VR of what is not known is the key's.
func TestProjectUnknown(t *testing.T) {
	keys := list(api.Node{Tag: 0x00091001, VR: api.VRUN, Value: "ab"}, api.Node{Tag: 0x00091002, VR: api.VRLO, Value: "x"}, api.Node{Tag: 0x00091003, VR: api.VRSQ, N: 1}, item(1), api.Node{Tag: 0x00091001, VR: api.VRFD, Value: "12345678"}, el(0x00280010, "ab"))
	want := []api.Node{{Tag: 0x00091001, VR: api.VRUN}, {Tag: 0x00091002, VR: api.VRLO}, {Tag: 0x00091003, VR: api.VRSQ}, {Tag: 0x00280010, VR: api.VRUS}}
	wantProject(t, full(), keys, want)
}

// TestProjectRefused: keys that are refused for their form alone have no answer; those that may not be asked for are told all the same.
func TestProjectRefused(t *testing.T) {
	wantProject(t, full(), list(item(0)), nil)
	wantProject(t, full(), list(el(api.TagPatientName, "a "), el(api.TagPatientID, "")), nil)
	wantProject(t, full(), list(el(api.TagPatientID, ""), el(api.TagPatientName, "")), nil)
	wantProject(t, full(), list(api.Node{Tag: api.TagSteps, VR: api.VRSQ, N: 1}), nil)
	wantProject(t, full(), list(el(api.TagBirthDate, "2026")), list(el(api.TagBirthDate, "19700101")))
}

// TestProjectText: a step's text is told as it stands, also such as no data set may have.
func TestProjectText(t *testing.T) {
	for _, text := range []string{" ", "a\x00", "\xff", "20260105 "} {
		s := full()
		s.PatientName, s.Date = text, text
		wantProject(t, s, list(el(api.TagPatientName, ""), when("", "")), list(el(api.TagPatientName, text), when(text, "120060")))
	}
}
