package worklist

import "modality/api"

// Where an attribute stands: one that is known at one place is not known at the other.
const (
	atTop  = iota
	inStep // in the item of (0040,0100)
)

// attribute is something that is known of a step.
type attribute struct {
	place int
	tag   api.Tag
	vr    api.VR
	text  func(api.Step) string // none for (0040,0100), which holds others
}

// attributes gives all that is known, in the order in which an answer that has all of it tells it.
func attributes() []attribute {
	return []attribute{
		{atTop, api.TagAccession, api.VRSH, func(s api.Step) string { return s.Accession }},
		{atTop, api.TagReferrer, api.VRPN, func(s api.Step) string { return s.Referrer }},
		{atTop, api.TagPatientName, api.VRPN, func(s api.Step) string { return s.PatientName }},
		{atTop, api.TagPatientID, api.VRLO, func(s api.Step) string { return s.PatientID }},
		{atTop, api.TagIssuer, api.VRLO, func(s api.Step) string { return s.Issuer }},
		{atTop, api.TagBirthDate, api.VRDA, func(s api.Step) string { return s.Birth }},
		{atTop, api.TagSex, api.VRCS, func(s api.Step) string { return s.Sex }},
		{atTop, api.TagStudyUID, api.VRUI, func(s api.Step) string { return s.Study }},
		{atTop, api.TagProcedureDesc, api.VRLO, func(s api.Step) string { return s.ProcedureDesc }},
		{atTop, api.TagSteps, api.VRSQ, nil},
		{inStep, api.TagModality, api.VRCS, func(s api.Step) string { return s.Modality }},
		{inStep, api.TagStationAE, api.VRAE, func(s api.Step) string { return s.Station }},
		{inStep, api.TagStartDate, api.VRDA, func(s api.Step) string { return s.Date }},
		{inStep, api.TagStartTime, api.VRTM, func(s api.Step) string { return s.Time }},
		{inStep, api.TagPerformer, api.VRPN, func(s api.Step) string { return s.Performer }},
		{inStep, api.TagStepDesc, api.VRLO, func(s api.Step) string { return s.Desc }},
		{inStep, api.TagStepID, api.VRSH, func(s api.Step) string { return s.ID }},
		{inStep, api.TagStationName, api.VRSH, func(s api.Step) string { return s.StationName }},
		{inStep, api.TagLocation, api.VRSH, func(s api.Step) string { return s.Location }},
		{inStep, api.TagStepStatus, api.VRCS, statusWord},
		{atTop, api.TagProcedureID, api.VRSH, func(s api.Step) string { return s.Procedure }},
	}
}

func statusWord(s api.Step) string {
	switch s.Status {
	case api.StepScheduled:
		return "SCHEDULED"
	case api.StepStarted:
		return "STARTED"
	case api.StepCompleted:
		return "COMPLETED"
	case api.StepDiscontinued:
		return "DISCONTINUED"
	}
	return ""
}

// blank gives keys for all that is known at a place; none of them restricts anything.
func blank(place int) []api.Node {
	var keys []api.Node
	for _, a := range attributes() {
		if a.place == place {
			keys = append(keys, api.Node{Tag: a.tag, VR: a.vr})
		}
	}
	return keys
}
