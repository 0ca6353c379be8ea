package value

import (
	"strings"

	"modality/api"
)

const microDigits = 6 // of a fraction of the second, at most

// clock reads a day, a time or a moment. Form comes ahead of worth: behind a piece that may not be it reads on, and keeps the refusal for the end.
type clock struct {
	cursor
	doubt  error // the first piece that is worth too much, or nothing
	moment api.Moment
}

// read reads what stands in a text from a place on as a value of this VR. A day is a moment without a time, a time is one of the first day: so all of them have one span.
func read(vr api.VR, text string, from int) (api.Moment, error) {
	c := clock{cursor: cursor{text: text, at: from}}
	c.moment.Date, c.moment.DateParts = api.Date{Year: 1, Month: 1, Day: 1}, 3
	switch vr {
	case api.VRDA:
		c.year()
		c.month()
		c.day()
	case api.VRTM:
		c.hour()
		c.more(c.minute, c.second)
		c.fraction()
	case api.VRDT:
		c.year()
		c.more(c.month, c.day, c.hour, c.minute, c.second)
		c.fraction()
		c.zone()
	default:
		return api.Moment{}, refusal(0, api.ErrValueKind)
	}
	if err := c.end(); err != nil {
		return api.Moment{}, err
	}
	return c.moment, nil
}

// more reads one piece behind the other, as long as there are digits.
func (c *clock) more(pieces ...func()) {
	for _, piece := range pieces {
		if !c.isOnDigit() {
			return
		}
		piece()
	}
}

func (c *clock) year() {
	c.moment.DateParts = 1
	c.moment.Date.Year = c.piece(4, 1, maxYear)
}

func (c *clock) month() {
	c.moment.DateParts = 2
	c.moment.Date.Month = c.piece(2, 1, len(monthDays))
}

func (c *clock) day() {
	c.moment.DateParts = 3
	c.moment.Date.Day = c.piece(2, 1, daysOfMonth(c.moment.Date.Year, c.moment.Date.Month))
}

func (c *clock) hour() {
	c.moment.Time.Parts = 1
	c.moment.Time.Hour = c.piece(2, 0, maxHour)
}

func (c *clock) minute() {
	c.moment.Time.Parts = 2
	c.moment.Time.Minute = c.piece(2, 0, maxMinute)
}

func (c *clock) second() {
	c.moment.Time.Parts = 3
	c.moment.Time.Second = c.piece(2, 0, maxSecond)
}

func (c *clock) fraction() {
	if c.moment.Time.Parts < 3 || c.take(".") == 0 {
		return
	}
	digits := c.digits(1, microDigits)
	c.moment.Time.Parts += len(digits)
	c.moment.Time.Micro = int(worth(digits + strings.Repeat("0", microDigits-len(digits))))
}

func (c *clock) zone() {
	from := c.at
	sign := c.take("+-")
	if sign == 0 {
		return
	}
	hours, minutes := c.number(2), c.number(2)
	zone := 60*hours + minutes
	if sign == '-' {
		zone = -zone
	}
	if minutes > maxMinute || !isZone(zone) || sign == '-' && zone == 0 {
		c.doubtAt(from)
	}
	c.moment.Zoned, c.moment.Zone = true, zone
}

// piece reads a number of so many digits that must lie between two bounds.
func (c *clock) piece(digits, least, most int) int {
	from := c.at
	n := c.number(digits)
	if n < least || n > most {
		c.doubtAt(from)
	}
	return n
}

func (c *clock) number(digits int) int { return int(worth(c.digits(digits, digits))) }

func (c *clock) doubtAt(place int) {
	if c.doubt == nil {
		c.doubt = refusal(place, api.ErrValueRange)
	}
}

func (c *clock) end() error {
	if err := c.cursor.end(); err != nil {
		return err
	}
	return c.doubt
}
