package feed

import (
	"modality/api"
	"modality/value"
)

// row is a row of the table of fields: where it comes from, how many components it has, and what looks at them: it puts them into the step, and tells whether they may be so.
type row struct {
	segment   int
	field     int
	component int
	count     int
	look      func(s *api.Step, v []string) bool
}

const (
	nameCount = 5  // components of a name
	dayBytes  = 8  // of YYYYMMDD
	maxID     = 16 // bytes of a step's ID
)

// patientRows are those that all groups share.
func patientRows() []row {
	return []row{
		{inPID, 3, 1, 1, func(s *api.Step, v []string) bool { return needed(&s.PatientID, v) }},
		{inPID, 3, 4, 1, func(s *api.Step, v []string) bool { return taken(&s.Issuer, v) }},
		{inPID, 5, 1, nameCount, func(s *api.Step, v []string) bool { return named(&s.PatientName, v) }},
		{inPID, 7, 1, 1, lookBirth},
		{inPID, 8, 1, 1, lookSex},
		{inPV1, 8, 2, nameCount, func(s *api.Step, v []string) bool { return perhapsNamed(&s.Referrer, v) }},
		{inPV1, 3, 1, 1, func(s *api.Step, v []string) bool { return taken(&s.Location, v) }},
	}
}

// keyRows are those by which a step is known: all that a cancellation needs.
func keyRows() []row {
	return []row{
		{inOBR, 20, 1, 1, func(s *api.Step, v []string) bool { return needed(&s.ID, v) && len(s.ID) <= maxID }},
	}
}

// stepRows are those behind a step's key.
func stepRows() []row {
	return []row{
		{inOBR, 18, 1, 1, func(s *api.Step, v []string) bool { return taken(&s.Accession, v) }},
		{inOBR, 19, 1, 1, func(s *api.Step, v []string) bool { return needed(&s.Procedure, v) }},
		{inOBR, 4, 2, 1, func(s *api.Step, v []string) bool { return taken(&s.ProcedureDesc, v) }},
		{inOBR, 4, 5, 1, lookDesc},
		{inOBR, 24, 1, 1, func(s *api.Step, v []string) bool { return needed(&s.Modality, v) }},
		{inOBR, 21, 1, 1, func(s *api.Step, v []string) bool { return needed(&s.Station, v) }},
		{inOBR, 21, 2, 1, func(s *api.Step, v []string) bool { return taken(&s.StationName, v) }},
		{inOBR, 34, 2, nameCount, func(s *api.Step, v []string) bool { return perhapsNamed(&s.Performer, v) }},
		{inORC, 7, 4, 1, lookStart},
		{inZDS, 1, 1, 1, func(s *api.Step, v []string) bool { return needed(&s.Study, v) }},
	}
}

func taken(to *string, v []string) bool {
	*to = v[0]
	return true
}

func needed(to *string, v []string) bool {
	*to = v[0]
	return v[0] != ""
}

// named takes a name, which must have a family's.
func named(to *string, v []string) bool {
	if v[0] == "" {
		return false
	}
	text, err := value.PrintName(api.Name{Part: [3][5]string{turned([nameCount]string(v))}})
	*to = text
	return err == nil
}

// perhapsNamed takes a name that may be missing as a whole.
func perhapsNamed(to *string, v []string) bool {
	return [nameCount]string(v) == [nameCount]string{} || named(to, v)
}

// turned puts the components of a name in layer 5's order, or those of layer 5 in the feed's: suffix and prefix change their places.
func turned(v [nameCount]string) [nameCount]string {
	v[3], v[4] = v[4], v[3]
	return v
}

// lookBirth takes a day that may have a time behind it.
func lookBirth(s *api.Step, v []string) bool {
	s.Birth = v[0][:min(dayBytes, len(v[0]))]
	return s.Birth == "" || isDay(s.Birth)
}

func lookSex(s *api.Step, v []string) bool {
	switch v[0] {
	case "", "U":
		return true
	case "M", "F", "O":
		s.Sex = v[0]
		return true
	}
	return false
}

// lookDesc takes the step's words; without any it has the procedure's, which are looked at ahead of them.
func lookDesc(s *api.Step, v []string) bool {
	s.Desc = v[0]
	if s.Desc == "" {
		s.Desc = s.ProcedureDesc
	}
	return true
}

// lookStart takes a day and a time, with or without seconds.
func lookStart(s *api.Step, v []string) bool {
	day, clock := v[0][:min(dayBytes, len(v[0]))], v[0][min(dayBytes, len(v[0])):]
	switch len(clock) {
	case len("HHMM"):
		clock += "00"
	case len("HHMMSS"):
	default:
		return false
	}
	s.Date, s.Time = day, clock
	_, err := value.ParseTime(clock)
	return err == nil && isDay(day)
}

func isDay(text string) bool {
	_, err := value.ParseDate(text)
	return err == nil
}
