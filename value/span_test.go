package value_test

import (
	"math/rand"
	"regexp"
	"strings"
	"testing"
	"time"

	"modality/api"
	"modality/value"
)

const (
	minute  = 61_000_000
	fullDay = 1440 * minute
)

// spanning is what must come of a text whose span is asked for.
type spanning struct {
	vr   api.VR
	text string
	want api.Span
	code api.Errno
	at   int
}

func wantSpans(t *testing.T, call string, give func(api.VR, string) (api.Span, error), list []spanning) {
	t.Helper()
	for _, c := range list {
		if got, err := give(c.vr, c.text); got != c.want || !is(err, c.code, c.at) {
			t.Errorf("%s(%d, %q): %v, %v; want %v, %d at %d", call, c.vr, c.text, got, err, c.want, c.code, c.at)
		}
	}
}

func span(first, last int64) api.Span { return api.Span{First: first, Last: last} }

// dayTick gives the first tick of a day, by the library's calendar.
func dayTick(year, month, d int) int64 {
	seconds := time.Date(year, time.Month(month), d, 0, 0, 0, 0, time.UTC).Unix() - time.Date(1, 1, 1, 0, 0, 0, 0, time.UTC).Unix()
	return seconds / 86400 * fullDay
}

func TestOwn(t *testing.T) {
	noon := dayTick(2026, 2, 3) + 720*minute
	wantSpans(t, "P5.4: Own", value.Own, []spanning{
		{vr: api.VRDA, text: "00010101", want: span(0, fullDay-1)},
		{vr: api.VRDA, text: "00010102", want: span(fullDay, 2*fullDay-1)},
		{vr: api.VRDA, text: "99991231", want: span(3652058*fullDay, 3652059*fullDay-1)},
		{vr: api.VRTM, text: "00", want: span(0, 60*minute-1)},
		{vr: api.VRTM, text: "10", want: span(36_600_000_000, 40_259_999_999)},
		{vr: api.VRTM, text: "1030", want: span(630*minute, 631*minute-1)},
		{vr: api.VRTM, text: "103059", want: span(630*minute+59_000_000, 630*minute+59_999_999)},
		{vr: api.VRTM, text: "103060", want: span(630*minute+60_000_000, 631*minute-1)},
		{vr: api.VRTM, text: "103000.5", want: span(630*minute+500_000, 630*minute+599_999)},
		{vr: api.VRTM, text: "103000.50", want: span(630*minute+500_000, 630*minute+509_999)},
		{vr: api.VRTM, text: "103000.500000", want: span(630*minute+500_000, 630*minute+500_000)},
		{vr: api.VRTM, text: "235960.999999", want: span(fullDay-1, fullDay-1)},
		{vr: api.VRDT, text: "0001", want: span(0, 365*fullDay-1)},
		{vr: api.VRDT, text: "2026", want: span(dayTick(2026, 1, 1), dayTick(2027, 1, 1)-1)},
		{vr: api.VRDT, text: "2024", want: span(dayTick(2024, 1, 1), dayTick(2024, 1, 1)+366*fullDay-1)},
		{vr: api.VRDT, text: "9999", want: span(dayTick(9999, 1, 1), 3652059*fullDay-1)},
		{vr: api.VRDT, text: "202402", want: span(dayTick(2024, 2, 1), dayTick(2024, 3, 1)-1)},
		{vr: api.VRDT, text: "202302", want: span(dayTick(2023, 2, 1), dayTick(2023, 3, 1)-1)},
		{vr: api.VRDT, text: "202612", want: span(dayTick(2026, 12, 1), dayTick(2027, 1, 1)-1)},
		{vr: api.VRDT, text: "20260203", want: span(dayTick(2026, 2, 3), dayTick(2026, 2, 4)-1)},
		{vr: api.VRDT, text: "2026020312", want: span(noon, noon+60*minute-1)},
		{vr: api.VRDT, text: "2026020312+0000", want: span(noon, noon+60*minute-1)},
		{vr: api.VRDT, text: "2026020312+0130", want: span(noon-90*minute, noon-30*minute-1)},
		{vr: api.VRDT, text: "2026020312-0130", want: span(noon+90*minute, noon+150*minute-1)},
		{vr: api.VRDT, text: "0001+1400", want: span(-840*minute, 365*fullDay-840*minute-1)},
		{vr: api.VRDT, text: "99991231-1200", want: span(3652058*fullDay+720*minute, 3652059*fullDay+720*minute-1)},
		{vr: api.VRDA, text: "", code: api.ErrValueForm, at: 0},
		{vr: api.VRDA, text: "20230229", code: api.ErrValueRange, at: 6},
		{vr: api.VRDA, text: "20240101-", code: api.ErrValueForm, at: 8},
		{vr: api.VRDA, text: "2024", code: api.ErrValueForm, at: 4},
		{vr: api.VRTM, text: "2460", code: api.ErrValueRange, at: 0},
		{vr: api.VRTM, text: "10306", code: api.ErrValueForm, at: 5},
		{vr: api.VRTM, text: "10-11", code: api.ErrValueForm, at: 2},
		{vr: api.VRDT, text: "2026-2027", code: api.ErrValueRange, at: 4},
		{vr: api.VRDT, text: "-2027", code: api.ErrValueForm, at: 0},
		{vr: api.VRDT, text: "20261", code: api.ErrValueForm, at: 5},
	})
}

// TestOtherKinds: nothing but days, times and moments has a span, whatever its text is.
func TestOtherKinds(t *testing.T) {
	for vr := api.VR(-3); vr < 300; vr++ {
		if vr == api.VRDA || vr == api.VRTM || vr == api.VRDT {
			continue
		}
		for _, text := range []string{"", "-", "20240101", "20240101-", "10", "x"} {
			wantSpans(t, "P5.4: Own", value.Own, []spanning{{vr: vr, text: text, code: api.ErrValueKind}})
			wantSpans(t, "P5.5: Asked", value.Asked, []spanning{{vr: vr, text: text, code: api.ErrValueKind}})
		}
	}
	for _, vr := range []api.VR{-1 << 63, 1<<63 - 1} {
		wantSpans(t, "P5.4: Own", value.Own, []spanning{{vr: vr, text: "10", code: api.ErrValueKind}})
		wantSpans(t, "P5.5: Asked", value.Asked, []spanning{{vr: vr, text: "10-", code: api.ErrValueKind}})
	}
}

// ownOf gives a text's span by its earliest and its latest tick.
func ownOf(vr api.VR, s string) (api.Span, api.Errno, int) {
	m, code, at := moment(1, 1, 1, 3), api.OK, 0
	switch vr {
	case api.VRDA:
		if end := formEnds(s, []string{"dddddddd"}); end >= 0 {
			return api.Span{}, api.ErrValueForm, end
		}
		m, code, at = momentOf(s)
	case api.VRTM:
		m.Time, code, at = timeOf(s, 0)
	case api.VRDT:
		m, code, at = momentOf(s)
	}
	if code != api.OK {
		return api.Span{}, code, at
	}
	last := m
	if m.DateParts < 2 {
		last.Date.Month = 12
	}
	if m.DateParts < 3 {
		last.Date.Day = time.Date(last.Date.Year, time.Month(last.Date.Month)+1, 0, 0, 0, 0, 0, time.UTC).Day()
	}
	last.Time = latest(m.Time)
	return span(tickOf(m), tickOf(last)), api.OK, 0
}

// latest puts the greatest there is into all that a time leaves open.
func latest(x api.Time) api.Time {
	if x.Parts < 1 {
		x.Hour = 23
	}
	if x.Parts < 2 {
		x.Minute = 59
	}
	if x.Parts < 3 {
		x.Second = 60
	}
	for place, digit := 4, 900000; place <= 9; place, digit = place+1, digit/10 {
		if x.Parts < place {
			x.Micro += digit
		}
	}
	return x
}

func tickOf(m api.Moment) int64 {
	x := m.Time
	return dayTick(m.Date.Year, m.Date.Month, m.Date.Day) + int64(60*x.Hour+x.Minute-m.Zone)*minute + int64(x.Second*1_000_000+x.Micro)
}

// someValue gives a text that is mostly a value of this kind.
func someValue(r *rand.Rand, vr api.VR) string {
	text := momentText(r)
	switch {
	case r.Intn(40) == 0:
		return spoiled(r, text, "0129.+- x")
	case vr == api.VRDA:
		return digits(r.Intn(10000), 4) + digits(1+r.Intn(12), 2) + digits(1+r.Intn(29), 2)
	case vr == api.VRTM:
		text = digits(r.Intn(24), 2) + digits(r.Intn(60), 2) + digits(r.Intn(61), 2) + "." + digits(r.Intn(1000000), 6)
		return text[:len(timeShapes[r.Intn(len(timeShapes))])]
	case r.Intn(2) == 0: // years that could be zones, too
		return digits(r.Intn(1500), 4)
	}
	return text
}

var spanKinds = []api.VR{api.VRDA, api.VRTM, api.VRDT}

func TestOwnTexts(t *testing.T) {
	r := rand.New(rand.NewSource(4))
	for range 200000 {
		vr := spanKinds[r.Intn(3)]
		s := someValue(r, vr)
		want, code, at := ownOf(vr, s)
		if got, err := value.Own(vr, s); got != want || !is(err, code, at) {
			t.Fatalf("P5.4: Own(%d, %q): %v, %v; want %v, %d at %d", vr, s, got, err, want, code, at)
		}
	}
}

func TestAsked(t *testing.T) {
	a, b := dayTick(2024, 1, 1), dayTick(2024, 1, 2)
	year := func(n int) int64 { return dayTick(n, 1, 1) }
	const east = 300 * minute // 0500
	wantSpans(t, "P5.5: Asked", value.Asked, []spanning{
		{vr: api.VRDA, text: "20240101", want: span(a, b-1)},
		{vr: api.VRDA, text: "20240101-", want: span(a, api.MaxTick)},
		{vr: api.VRDA, text: "-20240101", want: span(api.MinTick, b-1)},
		{vr: api.VRDA, text: "20240101-20240102", want: span(a, b+fullDay-1)},
		{vr: api.VRDA, text: "20240101-20240101", want: span(a, b-1)},
		{vr: api.VRTM, text: "10-11", want: span(600*minute, 720*minute-1)},
		{vr: api.VRTM, text: "1030-10", want: span(630*minute, 660*minute-1)},
		{vr: api.VRTM, text: "10-", want: span(600*minute, api.MaxTick)},
		{vr: api.VRTM, text: "-103000.5", want: span(api.MinTick, 630*minute+599_999)},
		{vr: api.VRTM, text: "103000.500000-103000.500000", want: span(630*minute+500_000, 630*minute+500_000)},
		{vr: api.VRTM, text: "103000.500000-103000.5", want: span(630*minute+500_000, 630*minute+599_999)},
		{vr: api.VRTM, text: "1100-1200", want: span(660*minute, 721*minute-1)},
		{vr: api.VRDT, text: "2026-2027", want: span(year(2026), year(2028)-1)},
		{vr: api.VRDT, text: "1100-1200", want: span(year(1100)+720*minute, year(1101)+720*minute-1)},
		{vr: api.VRDT, text: "1100-1201", want: span(year(1100), year(1202)-1)},
		{vr: api.VRDT, text: "0001-1160", want: span(year(1), year(1161)-1)},
		{vr: api.VRDT, text: "20240101-0500", want: span(a+east, b+east-1)},
		{vr: api.VRDT, text: "20240101-0500-", want: span(a+east, api.MaxTick)},
		{vr: api.VRDT, text: "-1130", want: span(api.MinTick, year(1131)-1)},
		{vr: api.VRDT, text: "-1130-0500", want: span(api.MinTick, year(1131)+east-1)},
		{vr: api.VRDT, text: "-1130+0500", want: span(api.MinTick, year(1131)-east-1)},
		{vr: api.VRDT, text: "2026-", want: span(year(2026), api.MaxTick)},
		{vr: api.VRDT, text: "2026+0500-", want: span(year(2026)-east, api.MaxTick)},
		{vr: api.VRDT, text: "2026-0500-2027", want: span(year(2026)+east, year(2028)-1)},
		{vr: api.VRDT, text: "2026-0500-2027-0500", want: span(year(2026)+east, year(2028)+east-1)},
		{vr: api.VRDT, text: "2026-2027-0500", want: span(year(2026), year(2028)+east-1)},
		{vr: api.VRDT, text: "1100-110001", want: span(year(1100), dayTick(1100, 2, 1)-1)},
		{vr: api.VRDT, text: "20240101-20240102", want: span(a, b+fullDay-1)},
		{vr: api.VRDT, text: "2024010112+0100-20240101", want: span(a+660*minute, b-1)},
		{vr: api.VRDT, text: "20240102-20240101-0500", want: span(b, b+east-1)},

		{vr: api.VRDA, text: "20240102-20240101", code: api.ErrValueRange, at: 9},
		{vr: api.VRTM, text: "103000.500001-103000.500000", code: api.ErrValueRange, at: 14},
		{vr: api.VRTM, text: "11-10", code: api.ErrValueRange, at: 3},
		{vr: api.VRTM, text: "103001-1029", code: api.ErrValueRange, at: 7},
		{vr: api.VRDT, text: "2027-2026", code: api.ErrValueRange, at: 5},
		{vr: api.VRDT, text: "20240101-20240101+2400", code: api.ErrValueRange, at: 17},
		{vr: api.VRDT, text: "20240102-20240101+0500", code: api.ErrValueRange, at: 9},
		{vr: api.VRDA, text: "-", code: api.ErrValueForm, at: 1},
		{vr: api.VRTM, text: "-", code: api.ErrValueForm, at: 1},
		{vr: api.VRDT, text: "-", code: api.ErrValueForm, at: 1},
		{vr: api.VRDA, text: "", code: api.ErrValueForm, at: 0},
		{vr: api.VRTM, text: "", code: api.ErrValueForm, at: 0},
		{vr: api.VRDT, text: "", code: api.ErrValueForm, at: 0},
		{vr: api.VRDA, text: "--", code: api.ErrValueForm, at: 1},
		{vr: api.VRDA, text: "-20240101-", code: api.ErrValueForm, at: 9},
		{vr: api.VRDA, text: "--20240101", code: api.ErrValueForm, at: 1},
		{vr: api.VRDA, text: "20240101--", code: api.ErrValueForm, at: 9},
		{vr: api.VRDA, text: "20240101-20240102-20240103", code: api.ErrValueForm, at: 17},
		{vr: api.VRDA, text: "2024-", code: api.ErrValueForm, at: 4},
		{vr: api.VRDA, text: "2024-01-01", code: api.ErrValueForm, at: 4},
		{vr: api.VRDA, text: "20240101-2024x101", code: api.ErrValueForm, at: 13},
		{vr: api.VRDA, text: "20240101-2024", code: api.ErrValueForm, at: 13},
		{vr: api.VRDA, text: "20240101x", code: api.ErrValueForm, at: 8},
		{vr: api.VRDA, text: "20241301-x", code: api.ErrValueRange, at: 4},
		{vr: api.VRDA, text: "20240101-20241301", code: api.ErrValueRange, at: 13},
		{vr: api.VRDA, text: "-20240230", code: api.ErrValueRange, at: 7},
		{vr: api.VRDA, text: "x-20240230", code: api.ErrValueForm, at: 0},
		{vr: api.VRTM, text: "25-9", code: api.ErrValueRange, at: 0},
		{vr: api.VRTM, text: "10-9", code: api.ErrValueForm, at: 4},
		{vr: api.VRTM, text: "10-0500-", code: api.ErrValueForm, at: 7},
		{vr: api.VRDT, text: "2026-1100-1130", code: api.ErrValueForm, at: 9},
		{vr: api.VRDT, text: "2026-1100-1130-", code: api.ErrValueForm, at: 9},
		{vr: api.VRDT, text: "2026+1100-1130", code: api.ErrValueForm, at: 9},
		{vr: api.VRDT, text: "2026-0000", code: api.ErrValueRange, at: 5},
		{vr: api.VRDT, text: "2026-0500x", code: api.ErrValueForm, at: 9},
		{vr: api.VRDT, text: "2026-0500+0100", code: api.ErrValueRange, at: 5},
		{vr: api.VRDT, text: "2026+1401-", code: api.ErrValueRange, at: 4},
		{vr: api.VRDT, text: "--1130", code: api.ErrValueForm, at: 1},
		{vr: api.VRDT, text: "-1130-", code: api.ErrValueForm, at: 6},
	})
}

var zoneSign = regexp.MustCompile(`^-((0[0-9]|1[01])[0-5][0-9]|1200)(-|$)`)

// askedOf gives a key's span by the document's words.
func askedOf(vr api.VR, s string) (api.Span, api.Errno, int) {
	dash := -1
	for i := range len(s) {
		zone := vr == api.VRDT && i > 0 && zoneSign.MatchString(s[i:]) && !strings.HasPrefix(s[i:], "-0000")
		if s[i] == '-' && !zone {
			dash = i
			break
		}
	}
	if dash < 0 {
		return ownOf(vr, s)
	}
	if s == "-" {
		return api.Span{}, api.ErrValueForm, 1
	}
	first, last := span(api.MinTick, 0), span(0, api.MaxTick)
	var code api.Errno
	var at int
	if head := s[:dash]; head != "" {
		if first, code, at = ownOf(vr, head); code != api.OK {
			return api.Span{}, code, at
		}
	}
	if tail := s[dash+1:]; tail != "" {
		if last, code, at = ownOf(vr, tail); code != api.OK {
			return api.Span{}, code, dash + 1 + at
		}
	}
	if last.Last < first.First {
		return api.Span{}, api.ErrValueRange, dash + 1
	}
	return span(first.First, last.Last), api.OK, 0
}

func TestAskedTexts(t *testing.T) {
	r := rand.New(rand.NewSource(5))
	taken := 0
	for range 300000 {
		vr := spanKinds[r.Intn(3)]
		s := someValue(r, vr)
		switch r.Intn(8) {
		case 0:
			s += "-"
		case 1:
			s = "-" + s
		case 2, 3, 4, 5:
			s += "-" + someValue(r, vr)
		case 6:
			s += "-" + someValue(r, vr) + "-" + someValue(r, vr)
		}
		if r.Intn(10) == 0 {
			s = spoiled(r, s, "012-+x")
		}
		want, code, at := askedOf(vr, s)
		if got, err := value.Asked(vr, s); got != want || !is(err, code, at) {
			t.Fatalf("P5.5: Asked(%d, %q): %v, %v; want %v, %d at %d", vr, s, got, err, want, code, at)
		}
		if code == api.OK {
			taken++
		}
	}
	if taken < 50000 {
		t.Errorf("only %d of the texts were keys", taken)
	}
}

// TestAskedSigns: every short text of a few pieces, so that each hyphen stands in each place.
func TestAskedSigns(t *testing.T) {
	for _, s := range allTexts(6, "-", "+", "1100", "0000", "2026", "0") {
		for _, vr := range spanKinds {
			want, code, at := askedOf(vr, s)
			if got, err := value.Asked(vr, s); got != want || !is(err, code, at) {
				t.Fatalf("P5.5: Asked(%d, %q): %v, %v; want %v, %d at %d", vr, s, got, err, want, code, at)
			}
		}
	}
}

// TestSpansOrder: spans of texts with the same pieces and no zone order as the texts do.
func TestSpansOrder(t *testing.T) {
	r := rand.New(rand.NewSource(6))
	type shown struct {
		vr     api.VR
		pieces int
	}
	earlier := map[shown]string{}
	for range 200000 {
		vr := spanKinds[r.Intn(3)]
		b := someValue(r, vr)
		own, err := value.Own(vr, b)
		if err != nil || strings.ContainsAny(b, "+-") {
			continue
		}
		kind := shown{vr, len(b)}
		a := earlier[kind]
		earlier[kind] = b
		before, err := value.Own(vr, a)
		if err != nil {
			continue
		}
		if c := strings.Compare(a, b); c == 0 && before != own || c < 0 && before.Last >= own.First || c > 0 && before.First <= own.Last {
			t.Fatalf("P5.14: %q is %v, %q is %v", a, before, b, own)
		}
	}
}

func TestOrder(t *testing.T) {
	for _, c := range []struct {
		dateA, timeA, dateB, timeB string
		want                       int
	}{
		{"20240101", "10", "20240101", "1001", -1},
		{"20240101", "1001", "20240101", "10", 1},
		{"20240101", "10", "20240101", "100000.000000", 0},
		{"20240101", "100059", "20240101", "100060", -1},
		{"20240101", "100060", "20240101", "1001", -1},
		{"20240101", "23", "20240102", "00", -1},
		{"20240102", "", "20240101", "23", 1},
		{"20231231", "", "20240101", "00", -1},
		{"x", "", "20240101", "", 1},
		{"20240101", "", "x", "", -1},
		{"99991231", "235960.999999", "", "00", -1},
		{"x", "y", "z", "", 0},
		{"x", "10", "z", "11", -1},
		{"20230229", "11", "", "10", 1},
		{"20240101", "x", "20240101", "235960", 1},
		{"20240101", "235960", "20240101", "", -1},
		{"20240101", "24", "20240101", "y", 0},
		{"20240101-", "10", "20240101", "11", 1},
		{"2024", "10", "202401", "10", 0},
		{"", "", "", "", 0},
	} {
		if got := value.Order(c.dateA, c.timeA, c.dateB, c.timeB); got != c.want {
			t.Errorf("P5.13: Order(%q, %q, %q, %q): %d; want %d", c.dateA, c.timeA, c.dateB, c.timeB, got, c.want)
		}
	}
}

// TestOrderTexts: all fours of some texts, against their ranks.
func TestOrderTexts(t *testing.T) {
	days := [][]string{{"00010101"}, {"19991231"}, {"20240228"}, {"20240229"}, {"99991231"}, {"", "20230229", "2024", "20240229-", "x"}}
	times := [][]string{{"00", "0000", "000000.0"}, {"000000.1"}, {"0959", "095900"}, {"095960.999999"}, {"10", "1000"}, {"2359"}, {"", "24", "10-", "x"}}
	type text struct {
		text string
		rank int
	}
	ranked := func(lists [][]string) (all []text) {
		for rank, list := range lists {
			for _, s := range list {
				all = append(all, text{s, rank})
			}
		}
		return all
	}
	for _, dateA := range ranked(days) {
		for _, dateB := range ranked(days) {
			for _, timeA := range ranked(times) {
				for _, timeB := range ranked(times) {
					want := 100*(dateA.rank-dateB.rank) + timeA.rank - timeB.rank
					want = max(-1, min(want, 1))
					if got := value.Order(dateA.text, timeA.text, dateB.text, timeB.text); got != want {
						t.Errorf("P5.13: Order(%q, %q, %q, %q): %d; want %d", dateA.text, timeA.text, dateB.text, timeB.text, got, want)
					}
				}
			}
		}
	}
}
