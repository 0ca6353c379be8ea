package value

import (
	"strconv"
	"strings"

	"modality/api"
)

const maxYear = 9999

// fine is told in place of a field's number where every field may be.
const fine = -1

// monthDays has the lengths of the months of a year that is no leap year.
var monthDays = [...]int{31, 28, 31, 30, 31, 30, 31, 31, 30, 31, 30, 31}

// ParseDate reads a day (P5.1).
func ParseDate(s string) (api.Date, error) {
	m, err := read(api.VRDA, s, 0)
	return m.Date, err
}

// PrintDate writes a day (P5.1).
func PrintDate(d api.Date) (string, error) {
	if at := unfitDate(d); at != fine {
		return "", refusal(at, api.ErrValueField)
	}
	return dateText(d, 3), nil
}

// DateNumber tells how many days lie between a day and the first (P5.1).
func DateNumber(d api.Date) (int64, error) {
	if at := unfitDate(d); at != fine {
		return 0, refusal(at, api.ErrValueField)
	}
	return dayNumber(d), nil
}

// DateOf gives the day of a number (P5.1).
func DateOf(n int64) (api.Date, error) {
	if n < 0 || n > api.MaxDateNo {
		return api.Date{}, refusal(0, api.ErrValueRange)
	}
	year := int(n/366) + 1 // not too late, since no year has more days
	for daysAhead(year+1) <= n {
		year++
	}
	d := api.Date{Year: year, Month: 1, Day: int(n-daysAhead(year)) + 1}
	for d.Day > daysOfMonth(year, d.Month) {
		d.Day -= daysOfMonth(year, d.Month)
		d.Month++
	}
	return d, nil
}

// unfitDate tells the first field that may not be.
func unfitDate(d api.Date) int {
	switch {
	case d.Year < 1 || d.Year > maxYear:
		return 0
	case d.Month < 1 || d.Month > len(monthDays):
		return 1
	case d.Day < 1 || d.Day > daysOfMonth(d.Year, d.Month):
		return 2
	}
	return fine
}

func dayNumber(d api.Date) int64 {
	n := daysAhead(d.Year) + int64(d.Day) - 1
	for month := 1; month < d.Month; month++ {
		n += int64(daysOfMonth(d.Year, month))
	}
	return n
}

// daysAhead tells how many days lie ahead of a year.
func daysAhead(year int) int64 {
	y := int64(year - 1)
	return 365*y + y/4 - y/100 + y/400
}

// daysOfMonth tells a month's length; 0, if there is no such month.
func daysOfMonth(year, month int) int {
	switch {
	case month < 1 || month > len(monthDays):
		return 0
	case month == 2 && isLeap(year):
		return 29
	}
	return monthDays[month-1]
}

func isLeap(year int) bool {
	return year%4 == 0 && (year%100 != 0 || year%400 == 0)
}

// dateText writes so many pieces of a day.
func dateText(d api.Date, parts int) string {
	text := padded(d.Year, 4) + padded(d.Month, 2) + padded(d.Day, 2)
	return text[:2+2*parts]
}

// padded writes a number with zeros ahead, so that it has so many digits.
func padded(n, digits int) string {
	text := strconv.Itoa(n)
	return strings.Repeat("0", digits-len(text)) + text
}
