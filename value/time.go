package value

import "modality/api"

const (
	maxHour   = 23
	maxMinute = 59
	maxSecond = 60 // a leap second
	maxMicro  = 999999
	maxParts  = 9
)

// ParseTime reads a time of day (P5.2).
func ParseTime(s string) (api.Time, error) {
	m, err := read(api.VRTM, s, 0)
	return m.Time, err
}

// PrintTime writes a time of day (P5.2).
func PrintTime(t api.Time) (string, error) {
	if at := unfitTime(t); at != fine {
		return "", refusal(at, api.ErrValueField)
	}
	return timeText(t), nil
}

// unfitTime tells the first field that may not be. Without a number of pieces that may be, nothing tells which of them there are.
func unfitTime(t api.Time) int {
	known := t.Parts >= 1 && t.Parts <= maxParts
	switch {
	case t.Hour < 0 || t.Hour > maxHour:
		return 0
	case t.Minute < 0 || t.Minute > maxMinute || known && t.Parts < 2 && t.Minute != 0:
		return 1
	case t.Second < 0 || t.Second > maxSecond || known && t.Parts < 3 && t.Second != 0:
		return 2
	case t.Micro < 0 || t.Micro > maxMicro || known && int64(t.Micro)%openTicks[t.Parts] != 0:
		return 3
	case !known:
		return 4
	}
	return fine
}

// timeText writes the pieces that a time has; that of a moment may have none.
func timeText(t api.Time) string {
	text := padded(t.Hour, 2) + padded(t.Minute, 2) + padded(t.Second, 2)
	if t.Parts <= 3 {
		return text[:2*t.Parts]
	}
	return text + "." + padded(t.Micro, microDigits)[:t.Parts-3]
}
