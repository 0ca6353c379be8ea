package value

import (
	"cmp"
	"strings"

	"modality/api"
)

const (
	secondTicks = 1_000_000
	minuteTicks = 61 * secondTicks // so that second 60 stands behind second 59
	dayTicks    = 1440 * minuteTicks
)

// openTicks has, by the number of a time's pieces, how many ticks they leave open; without any, all of the day.
var openTicks = [...]int64{dayTicks, 60 * minuteTicks, minuteTicks, secondTicks, 100_000, 10_000, 1_000, 100, 10, 1}

// Own gives the span of one value (P5.4).
func Own(vr api.VR, s string) (api.Span, error) { return ownFrom(vr, s, 0) }

// ownFrom gives the span of what stands in a text from a place on.
func ownFrom(vr api.VR, text string, from int) (api.Span, error) {
	m, err := read(vr, text, from)
	if err != nil {
		return api.Span{}, err
	}
	first := dayNumber(m.Date)*dayTicks + timeTick(m.Time) - int64(m.Zone)*minuteTicks
	return api.Span{First: first, Last: first + ticksOf(m) - 1}, nil
}

func timeTick(t api.Time) int64 {
	return int64(60*t.Hour+t.Minute)*minuteTicks + int64(t.Second)*secondTicks + int64(t.Micro)
}

// ticksOf tells how many ticks a moment leaves open.
func ticksOf(m api.Moment) int64 {
	switch m.DateParts {
	case 1:
		return (daysAhead(m.Date.Year+1) - daysAhead(m.Date.Year)) * dayTicks
	case 2:
		return int64(daysOfMonth(m.Date.Year, m.Date.Month)) * dayTicks
	}
	return openTicks[m.Time.Parts]
}

// Asked gives the span of a key, which may be a range (P5.5).
func Asked(vr api.VR, s string) (api.Span, error) {
	dash := dashOf(vr, s)
	switch {
	case ruleOf(vr).by != bySpan:
		return api.Span{}, refusal(0, api.ErrValueKind)
	case dash < 0:
		return Own(vr, s)
	case len(s) == 1:
		return api.Span{}, refusal(1, api.ErrValueForm)
	}
	return between(vr, s, dash)
}

// between gives the span of a range; one of its ends may be open.
func between(vr api.VR, s string, dash int) (api.Span, error) {
	span := api.Span{First: api.MinTick, Last: api.MaxTick}
	if dash > 0 {
		first, err := ownFrom(vr, s[:dash], 0)
		if err != nil {
			return api.Span{}, err
		}
		span.First = first.First
	}
	second := dash + 1
	if second == len(s) {
		return span, nil
	}
	last, err := ownFrom(vr, s, second)
	if err != nil {
		return api.Span{}, err
	}
	if last.Last < span.First {
		return api.Span{}, refusal(second, api.ErrValueRange)
	}
	span.Last = last.Last
	return span, nil
}

// dashOf tells where the range's hyphen stands; -1, if there is none.
func dashOf(vr api.VR, s string) int {
	if vr != api.VRDT {
		return strings.IndexByte(s, '-')
	}
	for i := range len(s) {
		if s[i] == '-' && (i == 0 || !isZoneSign(s, i)) {
			return i
		}
	}
	return -1
}

// isZoneSign tells whether a zone stands here, and behind it the end or another hyphen.
func isZoneSign(s string, at int) bool {
	c := clock{cursor: cursor{text: s, at: at}}
	c.zone()
	if c.broken || c.doubt != nil {
		return false
	}
	return c.at == len(s) || c.next() == '-'
}

// Order tells which of two days and times is the later (P5.13).
func Order(dateA, timeA, dateB, timeB string) int {
	return cmp.Or(
		cmp.Compare(firstTick(api.VRDA, dateA), firstTick(api.VRDA, dateB)),
		cmp.Compare(firstTick(api.VRTM, timeA), firstTick(api.VRTM, timeB)),
	)
}

// firstTick tells where a value's own span begins; one that has none stands behind all.
func firstTick(vr api.VR, s string) int64 {
	span, err := Own(vr, s)
	if err != nil {
		return api.MaxTick
	}
	return span.First
}
