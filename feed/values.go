package feed

import (
	"slices"
	"strings"

	"modality/api"
)

// values reads the patient, and then group by group (P11.6).
func (m *message) values(verb int, l layout) (api.Order, flaw) {
	patient := api.Step{Status: api.StepScheduled}
	if f := m.fill(&patient, patientRows(), l.patient); f.found() {
		return api.Order{}, f
	}
	o := api.Order{Verb: verb}
	var ids []string
	for _, g := range l.groups {
		s := patient
		if f := m.step(&s, verb, g, ids); f.found() {
			return api.Order{}, f
		}
		ids = append(ids, s.ID)
		if verb != api.OrderCancel {
			o.Steps = append(o.Steps, s)
		}
	}
	if verb == api.OrderCancel {
		o.IDs = ids
	}
	return o, flaw{}
}

// step reads a group, whose ID is none of these.
func (m *message) step(s *api.Step, verb int, g places, ids []string) flaw {
	if f := m.fill(s, keyRows(), g); f.found() {
		return f
	}
	if slices.Contains(ids, s.ID) {
		return flaw{g[inOBR], api.ErrFeedValue}
	}
	if verb == api.OrderCancel {
		return flaw{}
	}
	return m.fill(s, stepRows(), g)
}

// fill puts the values of some rows into a step.
func (m *message) fill(s *api.Step, rows []row, where places) flaw {
	for _, r := range rows {
		number := where[r.segment]
		if number == 0 {
			number = where[inORC] // what a segment lacks that is not there is the group's fault
		}
		pieces, reason := m.pieces(r, where[r.segment])
		if reason == api.OK && !r.look(s, pieces) {
			reason = api.ErrFeedValue
		}
		if reason != api.OK {
			return flaw{number, reason}
		}
	}
	return flaw{}
}

// pieces reads the components of a row.
func (m *message) pieces(r row, segment int) ([]string, api.Errno) {
	pieces := make([]string, r.count)
	if segment == 0 {
		return pieces, api.OK
	}
	for i := range pieces {
		var reason api.Errno
		pieces[i], reason = m.value(m.component(segment, r.field, r.component+i))
		if reason != api.OK {
			return nil, reason
		}
	}
	return pieces, api.OK
}

// value reads a component: its escapes, its character set, the spaces around it.
func (m *message) value(piece string) (string, api.Errno) {
	raw, _, ok := plain(m.marks, piece)
	if !ok {
		return "", api.ErrFeedEscape
	}
	text, err := m.set.Decode(api.CharWord, []byte(raw))
	if err != nil {
		return "", api.ErrFeedText
	}
	// To layer 3 a backslash would make two values of it.
	if strings.Contains(text, "\\") {
		return "", api.ErrFeedValue
	}
	return strings.Trim(text, " "), api.OK
}
