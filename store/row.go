package store

import (
	"strings"

	"modality/api"
	"modality/dict"
	"modality/value"
)

// The fields of a step, by their numbers.
const (
	atID = iota
	atAccession
	atProcedure
	atProcedureDesc
	atStudy
	atPatientName
	atPatientID
	atIssuer
	atBirth
	atSex
	atReferrer
	atModality
	atStation
	atStationName
	atLocation
	atDate
	atTime
	atPerformer
	atDesc
	atStatus
	textCount = atStatus // all fields ahead of the status are texts
)

// textVRs tell what layer 3 holds each text of a step against.
var textVRs = [textCount]api.VR{
	atID:            api.VRSH,
	atAccession:     api.VRSH,
	atProcedure:     api.VRSH,
	atProcedureDesc: api.VRLO,
	atStudy:         api.VRUI,
	atPatientName:   api.VRPN,
	atPatientID:     api.VRLO,
	atIssuer:        api.VRLO,
	atBirth:         api.VRDA,
	atSex:           api.VRCS,
	atReferrer:      api.VRPN,
	atModality:      api.VRCS,
	atStation:       api.VRAE,
	atStationName:   api.VRSH,
	atLocation:      api.VRSH,
	atDate:          api.VRDA,
	atTime:          api.VRTM,
	atPerformer:     api.VRPN,
	atDesc:          api.VRLO,
}

// Row tells whether a step may be a row (P12.1).
func Row(s api.Step) error {
	for field, text := range textsOf(s) {
		if !textFits(field, text) {
			return refusal(field, api.ErrStoreRow)
		}
	}
	if !within(s.Status, api.StepScheduled, api.StepDiscontinued) {
		return refusal(atStatus, api.ErrStoreRow)
	}
	return nil
}

func rowFits(s api.Step) bool { return Row(s) == nil }

// idFits tells whether a row may have the ID.
func idFits(id string) bool { return textFits(atID, id) }

func textFits(field int, text string) bool {
	v := textVRs[field]
	return !strings.Contains(text, `\`) && dict.Trim(v, text) == text && dict.Check(v, text) == nil && isAsked(field, text)
}

// isAsked tells whether a text is what its field asks for besides its VR.
func isAsked(field int, text string) bool {
	switch field {
	case atID:
		return text != "" && isPlain(text)
	case atProcedure, atStudy, atPatientName, atPatientID, atModality, atStation:
		return text != ""
	case atBirth:
		return text == "" || isDay(text)
	case atSex:
		return text == "" || text == "M" || text == "F" || text == "O"
	case atDate:
		return isDay(text)
	case atTime:
		return isSecond(text)
	}
	return true
}

// isPlain tells whether each byte is one that every side can print.
func isPlain(text string) bool {
	for i := range len(text) {
		if text[i] < 0x20 || text[i] > 0x7e {
			return false
		}
	}
	return true
}

func isDay(text string) bool {
	_, err := value.ParseDate(text)
	return err == nil
}

// isSecond tells whether a text is a time with its seconds, and no more.
func isSecond(text string) bool {
	_, err := value.ParseTime(text)
	return err == nil && len(text) == len("HHMMSS")
}

// textsOf gives the texts of a step, in the order of its fields.
func textsOf(s api.Step) [textCount]string {
	return [textCount]string{
		s.ID, s.Accession, s.Procedure, s.ProcedureDesc, s.Study,
		s.PatientName, s.PatientID, s.Issuer, s.Birth, s.Sex, s.Referrer,
		s.Modality, s.Station, s.StationName, s.Location,
		s.Date, s.Time, s.Performer, s.Desc,
	}
}

// stepOf is the step that has these texts.
func stepOf(t [textCount]string, status int) api.Step {
	return api.Step{
		ID: t[atID], Accession: t[atAccession], Procedure: t[atProcedure], ProcedureDesc: t[atProcedureDesc], Study: t[atStudy],
		PatientName: t[atPatientName], PatientID: t[atPatientID], Issuer: t[atIssuer], Birth: t[atBirth], Sex: t[atSex], Referrer: t[atReferrer],
		Modality: t[atModality], Station: t[atStation], StationName: t[atStationName], Location: t[atLocation],
		Date: t[atDate], Time: t[atTime], Performer: t[atPerformer], Desc: t[atDesc],
		Status: status,
	}
}
