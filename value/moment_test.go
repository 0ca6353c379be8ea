package value_test

import (
	"math"
	"math/rand"
	"strconv"
	"strings"
	"testing"
	"time"

	"modality/api"
	"modality/value"
)

// moment gives one without a time and a zone.
func moment(year, month, d, parts int) api.Moment {
	return api.Moment{Date: day(year, month, d), DateParts: parts}
}

func timed(m api.Moment, x api.Time) api.Moment {
	m.Time = x
	return m
}

func zoned(m api.Moment, zone int) api.Moment {
	m.Zoned, m.Zone = true, zone
	return m
}

func TestParseMoment(t *testing.T) {
	third := moment(2026, 2, 3, 3)
	wantRead(t, "P5.3: ParseMoment", value.ParseMoment, []reading[api.Moment]{
		{text: "2026", want: moment(2026, 1, 1, 1)},
		{text: "0001", want: moment(1, 1, 1, 1)},
		{text: "9999", want: moment(9999, 1, 1, 1)},
		{text: "202602", want: moment(2026, 2, 1, 2)},
		{text: "20260203", want: third},
		{text: "20240229", want: moment(2024, 2, 29, 3)},
		{text: "2026020315", want: timed(third, clock(15, 0, 0, 0, 1))},
		{text: "202602031530", want: timed(third, clock(15, 30, 0, 0, 2))},
		{text: "20260203153060", want: timed(third, clock(15, 30, 60, 0, 3))},
		{text: "20260203153000.5", want: timed(third, clock(15, 30, 0, 500000, 4))},
		{text: "20260203153000.123456", want: timed(third, clock(15, 30, 0, 123456, 9))},
		{text: "2026+0000", want: zoned(moment(2026, 1, 1, 1), 0)},
		{text: "2026+1400", want: zoned(moment(2026, 1, 1, 1), 840)},
		{text: "2026-1200", want: zoned(moment(2026, 1, 1, 1), -720)},
		{text: "202602-0001", want: zoned(moment(2026, 2, 1, 2), -1)},
		{text: "20260203+0059", want: zoned(third, 59)},
		{text: "2026020315-0330", want: zoned(timed(third, clock(15, 0, 0, 0, 1)), -210)},
		{text: "202602031530+0545", want: zoned(timed(third, clock(15, 30, 0, 0, 2)), 345)},
		{text: "20260203153000+0100", want: zoned(timed(third, clock(15, 30, 0, 0, 3)), 60)},
		{text: "20260203153000.123456-1159", want: zoned(timed(third, clock(15, 30, 0, 123456, 9)), -719)},
		{text: "2026+1401", code: api.ErrValueRange, at: 4},
		{text: "2026+1500", code: api.ErrValueRange, at: 4},
		{text: "2026+9999", code: api.ErrValueRange, at: 4},
		{text: "2026+0060", code: api.ErrValueRange, at: 4},
		{text: "2026+1360", code: api.ErrValueRange, at: 4},
		{text: "2026-0000", code: api.ErrValueRange, at: 4},
		{text: "2026-0060", code: api.ErrValueRange, at: 4},
		{text: "2026-1160", code: api.ErrValueRange, at: 4},
		{text: "2026-1201", code: api.ErrValueRange, at: 4},
		{text: "2026-1400", code: api.ErrValueRange, at: 4},
		{text: "20260203-1201", code: api.ErrValueRange, at: 8},
		{text: "20260203153000.25+1401", code: api.ErrValueRange, at: 17},
		{text: "0000", code: api.ErrValueRange, at: 0},
		{text: "0000+0100", code: api.ErrValueRange, at: 0},
		{text: "000013-0000", code: api.ErrValueRange, at: 0},
		{text: "202600", code: api.ErrValueRange, at: 4},
		{text: "202613", code: api.ErrValueRange, at: 4},
		{text: "20261332+1401", code: api.ErrValueRange, at: 4},
		{text: "20260200", code: api.ErrValueRange, at: 6},
		{text: "20260230", code: api.ErrValueRange, at: 6},
		{text: "2026023024", code: api.ErrValueRange, at: 6},
		{text: "2026020324", code: api.ErrValueRange, at: 8},
		{text: "202602031560", code: api.ErrValueRange, at: 10},
		{text: "20260203150061", code: api.ErrValueRange, at: 12},
		{text: "20260203150061-0000", code: api.ErrValueRange, at: 12},
		{text: "", code: api.ErrValueForm, at: 0},
		{text: "202", code: api.ErrValueForm, at: 3},
		{text: "20261", code: api.ErrValueForm, at: 5},
		{text: "2026020", code: api.ErrValueForm, at: 7},
		{text: "202602031", code: api.ErrValueForm, at: 9},
		{text: "20260203153", code: api.ErrValueForm, at: 11},
		{text: "2026020315300", code: api.ErrValueForm, at: 13},
		{text: "202602031530000", code: api.ErrValueForm, at: 14},
		{text: "20260203153000.", code: api.ErrValueForm, at: 15},
		{text: "20260203153000.+0100", code: api.ErrValueForm, at: 15},
		{text: "20260203153000.1234567", code: api.ErrValueForm, at: 21},
		{text: "20260203.5", code: api.ErrValueForm, at: 8},
		{text: "2026020315.5", code: api.ErrValueForm, at: 10},
		{text: "202602031530.5", code: api.ErrValueForm, at: 12},
		{text: "2026020315300.5", code: api.ErrValueForm, at: 13},
		{text: "2026.5", code: api.ErrValueForm, at: 4},
		{text: "2026+", code: api.ErrValueForm, at: 5},
		{text: "2026+010", code: api.ErrValueForm, at: 8},
		{text: "2026+01000", code: api.ErrValueForm, at: 9},
		{text: "2026+01-0", code: api.ErrValueForm, at: 7},
		{text: "2026++100", code: api.ErrValueForm, at: 5},
		{text: "2026+0100-0100", code: api.ErrValueForm, at: 9},
		{text: "2026+0100.5", code: api.ErrValueForm, at: 9},
		{text: "20261+0100", code: api.ErrValueForm, at: 5},
		{text: "20260+", code: api.ErrValueForm, at: 5},
		{text: "202+0100", code: api.ErrValueForm, at: 3},
		{text: "+0100", code: api.ErrValueForm, at: 0},
		{text: "-2026", code: api.ErrValueForm, at: 0},
		{text: "2026 ", code: api.ErrValueForm, at: 4},
		{text: "2026\x00", code: api.ErrValueForm, at: 4},
		{text: "000013-000", code: api.ErrValueForm, at: 10},
		{text: "202613x", code: api.ErrValueForm, at: 6},
		{text: strings.Repeat("1", 1<<20), code: api.ErrValueForm, at: 14},
	})
}

// TestZones: every sign and four digits.
func TestZones(t *testing.T) {
	for n := range 10000 {
		hours, minutes := n/100, n%100
		for _, sign := range []int{1, -1} {
			text := "2026" + map[int]string{1: "+", -1: "-"}[sign] + digits(n, 4)
			zone := sign * (60*hours + minutes)
			may := minutes < 60 && (sign > 0 && n <= 1400 || sign < 0 && n >= 1 && n <= 1200)
			m, err := value.ParseMoment(text)
			switch {
			case may && (m != zoned(moment(2026, 1, 1, 1), zone) || err != nil):
				t.Errorf("P5.3: ParseMoment(%q): %v, %v", text, m, err)
			case !may && (m != api.Moment{} || !is(err, api.ErrValueRange, 4)):
				t.Errorf("P5.3: ParseMoment(%q): %v, %v", text, m, err)
			case may:
				if back, err := value.PrintMoment(m); back != text || err != nil {
					t.Errorf("P5.3, P5.14: PrintMoment(%v): %q, %v; want %q", m, back, err, text)
				}
			}
		}
	}
}

// TestMomentTexts: texts of the form and such as nearly are, against all the shapes there are.
func TestMomentTexts(t *testing.T) {
	r := rand.New(rand.NewSource(3))
	read := 0
	for range 300000 {
		s := spoiled(r, momentText(r), "0129.+- x")
		want, code, at := momentOf(s)
		got, err := value.ParseMoment(s)
		if got != want || !is(err, code, at) {
			t.Fatalf("P5.3: ParseMoment(%q): %v, %v; want %v, %d at %d", s, got, err, want, code, at)
		}
		if err != nil {
			continue
		}
		read++
		if back, err := value.PrintMoment(got); back != s || err != nil {
			t.Fatalf("P5.3, P5.14: PrintMoment(%v): %q, %v; want %q", got, back, err, s)
		}
	}
	if read < 50000 {
		t.Errorf("only %d of the texts were moments", read)
	}
}

// momentText gives a text whose pieces are mostly such as may be.
func momentText(r *rand.Rand) string {
	n := func(most, width int) string {
		if r.Intn(25) == 0 {
			most = 100
		}
		return digits(r.Intn(most), width)
	}
	text := n(10000, 4) + n(13, 2) + n(32, 2) + n(24, 2) + n(60, 2) + n(61, 2)
	text = text[:4+2*r.Intn(6)]
	if len(text) == 14 && r.Intn(2) == 0 {
		text += "." + digits(r.Intn(1000000), 6)[:1+r.Intn(6)]
	}
	if r.Intn(2) == 0 {
		text += string("+-"[r.Intn(2)]) + n(14, 2) + n(60, 2)
	}
	return text
}

// momentOf reads a moment by its shape and its digits' places.
func momentOf(s string) (api.Moment, api.Errno, int) {
	if at := formEnds(s, momentShapes()); at >= 0 {
		return api.Moment{}, api.ErrValueForm, at
	}
	number := func(text string) int { n, _ := strconv.Atoi(text); return n }
	body, zone := s, ""
	if i := strings.IndexAny(s, "+-"); i >= 0 {
		body, zone = s[:i], s[i:]
	}
	m := moment(number(body[:4]), 1, 1, min(len(body)/2-1, 3))
	switch {
	case m.Date.Year == 0:
		return api.Moment{}, api.ErrValueRange, 0
	case len(body) >= 6 && (number(body[4:6]) < 1 || number(body[4:6]) > 12):
		return api.Moment{}, api.ErrValueRange, 4
	}
	if len(body) >= 6 {
		m.Date.Month = number(body[4:6])
	}
	if len(body) >= 8 {
		m.Date.Day = number(body[6:8])
		if u := time.Date(m.Date.Year, time.Month(m.Date.Month), m.Date.Day, 0, 0, 0, 0, time.UTC); u.Day() != m.Date.Day {
			return api.Moment{}, api.ErrValueRange, 6
		}
	}
	if len(body) > 8 {
		var code api.Errno
		var at int
		if m.Time, code, at = timeOf(body[8:], 8); code != api.OK {
			return api.Moment{}, code, at
		}
	}
	if zone == "" {
		return m, api.OK, 0
	}
	n := number(zone)
	if n < -1200 || n > 1400 || n%100 > 59 || n%100 < -59 || zone == "-0000" {
		return api.Moment{}, api.ErrValueRange, len(body)
	}
	return zoned(m, n/100*60+n%100), api.OK, 0
}

func TestPrintMoment(t *testing.T) {
	third := moment(2026, 2, 3, 3)
	wantPrinted(t, "P5.3: PrintMoment", value.PrintMoment, []printing[api.Moment]{
		{data: moment(7, 1, 1, 1), want: "0007"},
		{data: moment(2026, 12, 1, 2), want: "202612"},
		{data: third, want: "20260203"},
		{data: timed(third, clock(0, 0, 0, 0, 1)), want: "2026020300"},
		{data: timed(third, clock(15, 30, 60, 250000, 5)), want: "20260203153060.25"},
		{data: zoned(third, 0), want: "20260203+0000"},
		{data: zoned(moment(2026, 1, 1, 1), -720), want: "2026-1200"},
		{data: zoned(moment(2026, 1, 1, 1), 840), want: "2026+1400"},
		{data: zoned(moment(2026, 1, 1, 1), -1), want: "2026-0001"},
		{data: zoned(moment(2026, 1, 1, 1), -61), want: "2026-0101"},
		{data: zoned(timed(third, clock(15, 30, 0, 0, 2)), 345), want: "202602031530+0545"},
		{data: api.Moment{}, code: api.ErrValueField, at: 0},
		{data: moment(0, 1, 1, 1), code: api.ErrValueField, at: 0},
		{data: moment(10000, 1, 1, 1), code: api.ErrValueField, at: 0},
		{data: moment(2026, 13, 1, 2), code: api.ErrValueField, at: 0},
		{data: moment(2026, 2, 29, 3), code: api.ErrValueField, at: 0},
		{data: moment(2026, 2, 29, 0), code: api.ErrValueField, at: 0},
		{data: moment(2026, 2, 1, 1), code: api.ErrValueField, at: 0},
		{data: moment(2026, 1, 2, 1), code: api.ErrValueField, at: 0},
		{data: moment(2026, 2, 2, 2), code: api.ErrValueField, at: 0},
		{data: zoned(timed(moment(2026, 2, 2, 2), clock(99, 0, 0, 0, 1)), 9999), code: api.ErrValueField, at: 0},
		{data: moment(2026, 2, 3, 0), code: api.ErrValueField, at: 1},
		{data: moment(2026, 2, 3, 4), code: api.ErrValueField, at: 1},
		{data: moment(2026, 2, 3, -1), code: api.ErrValueField, at: 1},
		{data: moment(2026, 2, 3, math.MaxInt), code: api.ErrValueField, at: 1},
		{data: zoned(timed(moment(2026, 2, 3, 0), clock(99, 0, 0, 0, 1)), 9999), code: api.ErrValueField, at: 1},
		{data: timed(moment(2026, 1, 1, 1), clock(0, 0, 0, 0, 1)), code: api.ErrValueField, at: 2},
		{data: timed(moment(2026, 1, 1, 2), clock(15, 0, 0, 0, 1)), code: api.ErrValueField, at: 2},
		{data: timed(moment(2026, 1, 1, 2), clock(15, 0, 0, 0, 0)), code: api.ErrValueField, at: 2},
		{data: timed(third, clock(15, 0, 0, 0, 0)), code: api.ErrValueField, at: 2},
		{data: timed(third, clock(0, 0, 0, 1, 0)), code: api.ErrValueField, at: 2},
		{data: timed(third, clock(24, 0, 0, 0, 1)), code: api.ErrValueField, at: 2},
		{data: timed(third, clock(15, 60, 0, 0, 2)), code: api.ErrValueField, at: 2},
		{data: timed(third, clock(15, 1, 0, 0, 1)), code: api.ErrValueField, at: 2},
		{data: timed(third, clock(15, 0, 0, 0, 10)), code: api.ErrValueField, at: 2},
		{data: zoned(timed(third, clock(15, 0, 0, 0, -1)), 9999), code: api.ErrValueField, at: 2},
		{data: zoned(third, 841), code: api.ErrValueField, at: 4},
		{data: zoned(third, -721), code: api.ErrValueField, at: 4},
		{data: zoned(third, math.MinInt), code: api.ErrValueField, at: 4},
		{data: zoned(third, math.MaxInt), code: api.ErrValueField, at: 4},
		{data: api.Moment{Date: third.Date, DateParts: 3, Zone: 1}, code: api.ErrValueField, at: 4},
		{data: api.Moment{Date: third.Date, DateParts: 3, Zone: -60}, code: api.ErrValueField, at: 4},
	})
}
