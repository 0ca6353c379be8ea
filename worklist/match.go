package worklist

import (
	"slices"
	"strings"

	"modality/api"
	"modality/value"
)

// mayAsk tells whether the value of a key may be asked for.
func (q query) mayAsk(c cell) bool {
	if c.isTime() && q.isOneSpan() {
		return areTimes(cutRange(c.key.Value))
	}
	return value.Key(c.key.VR, c.key.Value) == nil
}

func (c cell) isDay() bool { return c.text != nil && c.key.Tag == api.TagStartDate }

func (c cell) isTime() bool { return c.text != nil && c.key.Tag == api.TagStartTime }

// isOneSpan tells whether the step's day and its time are both asked for by ranges: then they are one range, from a time on a day to a time on a day.
func (q query) isOneSpan() bool {
	return isRange(q.valueOf(cell.isDay)) && isRange(q.valueOf(cell.isTime))
}

func isRange(key string) bool { return strings.Contains(key, "-") }

func (q query) valueOf(isIt func(cell) bool) string {
	if i := slices.IndexFunc(q, isIt); i >= 0 {
		return q[i].key.Value
	}
	return ""
}

// cutRange gives what stands ahead of a range's hyphen and behind it.
func cutRange(key string) (first, last string) {
	first, last, _ = strings.Cut(key, "-")
	return first, last
}

// areTimes tells whether one end of a range at least is there, and each that is there is a time. (A second hyphen stands in an end that is none.)
func areTimes(first, last string) bool {
	return first+last != "" && isTimeOrNone(first) && isTimeOrNone(last)
}

func isTimeOrNone(s string) bool {
	_, err := value.Own(api.VRTM, s)
	return s == "" || err == nil
}

// matcher turns keys that may be asked for into one function, which tells whether a step matches them all.
func (q query) matcher() func(api.Step) bool {
	var tests []func(api.Step) bool
	one := q.isOneSpan()
	if one {
		tests = append(tests, spanMatcher(q.valueOf(cell.isDay), q.valueOf(cell.isTime)))
	}
	for _, c := range q.asked() {
		if !one || !c.isDay() && !c.isTime() {
			tests = append(tests, c.matches)
		}
	}
	return func(s api.Step) bool {
		for _, holds := range tests {
			if !holds(s) {
				return false
			}
		}
		return true
	}
}

func (c cell) matches(s api.Step) bool {
	ok, err := value.Match(c.key.VR, c.key.Value, c.text(s))
	return err == nil && ok
}

// spanMatcher turns the ranges of day and time, which are one, into what tells whether a step lies in it.
func spanMatcher(days, times string) func(api.Step) bool {
	firstDay, lastDay := cutRange(days)
	firstTime, lastTime := cutRange(times)
	first, last := beginning(firstDay, firstTime), end(lastDay, lastTime)
	return func(s api.Step) bool {
		at, ok := tickOf(s)
		return ok && at >= first && at <= last
	}
}

// beginning tells the first tick of a range; a time without a day restricts nothing.
func beginning(day, time string) int64 {
	if day == "" {
		return api.MinTick
	}
	return spanOf(api.VRDA, day).First + spanOf(api.VRTM, time).First
}

// end tells the last tick of a range.
func end(day, time string) int64 {
	switch {
	case day == "":
		return api.MaxTick
	case time == "":
		return spanOf(api.VRDA, day).Last
	}
	return spanOf(api.VRDA, day).First + spanOf(api.VRTM, time).Last
}

// spanOf gives the span of a day or a time of keys that may be asked for; that of no text is {0, 0}.
func spanOf(vr api.VR, s string) api.Span {
	span, _ := value.Own(vr, s)
	return span
}

// tickOf tells the first tick of a step's day and time, if it has both.
func tickOf(s api.Step) (int64, bool) {
	day, err := value.Own(api.VRDA, s.Date)
	if err != nil {
		return 0, false
	}
	time, err := value.Own(api.VRTM, s.Time)
	if err != nil {
		return 0, false
	}
	return day.First + time.First, true
}
