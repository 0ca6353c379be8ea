package value

import "modality/api"

const (
	minZone = -720
	maxZone = 840
)

// ParseMoment reads a day and time, or parts of them (P5.3).
func ParseMoment(s string) (api.Moment, error) { return read(api.VRDT, s, 0) }

// PrintMoment writes a moment (P5.3).
func PrintMoment(m api.Moment) (string, error) {
	if at := unfitMoment(m); at != fine {
		return "", refusal(at, api.ErrValueField)
	}
	text := dateText(m.Date, m.DateParts) + timeText(m.Time)
	if m.Zoned {
		text += zoneText(m.Zone)
	}
	return text, nil
}

// unfitMoment tells the first field that may not be.
func unfitMoment(m api.Moment) int {
	switch {
	case unfitDate(m.Date) != fine || m.DateParts == 1 && m.Date.Month != 1 || (m.DateParts == 1 || m.DateParts == 2) && m.Date.Day != 1:
		return 0
	case m.DateParts < 1 || m.DateParts > 3:
		return 1
	case m.Time != (api.Time{}) && (m.DateParts < 3 || unfitTime(m.Time) != fine):
		return 2
	case m.Zoned && !isZone(m.Zone) || !m.Zoned && m.Zone != 0:
		return 4
	}
	return fine
}

func isZone(minutes int) bool { return minutes >= minZone && minutes <= maxZone }

func zoneText(zone int) string {
	sign := "+"
	if zone < 0 {
		sign, zone = "-", -zone
	}
	return sign + padded(zone/60, 2) + padded(zone%60, 2)
}
