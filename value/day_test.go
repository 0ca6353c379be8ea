package value_test

import (
	"math"
	"strings"
	"testing"
	"time"

	"modality/api"
	"modality/value"
)

func day(year, month, day int) api.Date { return api.Date{Year: year, Month: month, Day: day} }

func TestParseDate(t *testing.T) {
	wantRead(t, "P5.1: ParseDate", value.ParseDate, []reading[api.Date]{
		{text: "20240229", want: day(2024, 2, 29)},
		{text: "00010101", want: day(1, 1, 1)},
		{text: "99991231", want: day(9999, 12, 31)},
		{text: "20000229", want: day(2000, 2, 29)},
		{text: "19000228", want: day(1900, 2, 28)},
		{text: "19000229", code: api.ErrValueRange, at: 6},
		{text: "20230229", code: api.ErrValueRange, at: 6},
		{text: "20240230", code: api.ErrValueRange, at: 6},
		{text: "20240431", code: api.ErrValueRange, at: 6},
		{text: "20240100", code: api.ErrValueRange, at: 6},
		{text: "20240132", code: api.ErrValueRange, at: 6},
		{text: "20240001", code: api.ErrValueRange, at: 4},
		{text: "20241301", code: api.ErrValueRange, at: 4},
		{text: "20249999", code: api.ErrValueRange, at: 4},
		{text: "00000101", code: api.ErrValueRange, at: 0},
		{text: "00000000", code: api.ErrValueRange, at: 0},
		{text: "00001399", code: api.ErrValueRange, at: 0},
		{text: "", code: api.ErrValueForm, at: 0},
		{text: "2", code: api.ErrValueForm, at: 1},
		{text: "2024", code: api.ErrValueForm, at: 4},
		{text: "202402", code: api.ErrValueForm, at: 6},
		{text: "2024022", code: api.ErrValueForm, at: 7},
		{text: "202402291", code: api.ErrValueForm, at: 8},
		{text: "20240229 ", code: api.ErrValueForm, at: 8},
		{text: " 20240229", code: api.ErrValueForm, at: 0},
		{text: "2024-02-29", code: api.ErrValueForm, at: 4},
		{text: "+2024022", code: api.ErrValueForm, at: 0},
		{text: "2024.229", code: api.ErrValueForm, at: 4},
		{text: "2024\x00229", code: api.ErrValueForm, at: 4},
		{text: "202402/9", code: api.ErrValueForm, at: 6},
		{text: "202402:9", code: api.ErrValueForm, at: 6},
		{text: "2024\u0662\u0662", code: api.ErrValueForm, at: 4},
		{text: "0000139x", code: api.ErrValueForm, at: 7},
		{text: "000013991", code: api.ErrValueForm, at: 8},
		{text: "0000", code: api.ErrValueForm, at: 4},
		{text: strings.Repeat("1", 1<<20), code: api.ErrValueForm, at: 8},
	})
}

// TestDays: every day there is, against the library's calendar.
func TestDays(t *testing.T) {
	first := time.Date(1, 1, 1, 0, 0, 0, 0, time.UTC)
	for n := range int64(api.MaxDateNo + 1) {
		u := first.AddDate(0, 0, int(n))
		want := day(u.Year(), int(u.Month()), u.Day())
		if d, err := value.DateOf(n); d != want || err != nil {
			t.Fatalf("P5.1: DateOf(%d): %v, %v; want %v", n, d, err, want)
		}
		if got, err := value.DateNumber(want); got != n || err != nil {
			t.Fatalf("P5.1: DateNumber(%v): %d, %v; want %d", want, got, err, n)
		}
	}
	if last := first.AddDate(0, 0, api.MaxDateNo); last.Year() != 9999 || last.YearDay() != 365 {
		t.Errorf("the last day is %v", last)
	}
}

// TestDateTexts: every two digits as month and as day, in some years.
func TestDateTexts(t *testing.T) {
	for _, year := range []int{0, 1, 4, 99, 100, 400, 1582, 1600, 1700, 1899, 1900, 1904, 1999, 2000, 2023, 2024, 2100, 2400, 9996, 9999} {
		for month := range 100 {
			for d := range 100 {
				text := digits(year, 4) + digits(month, 2) + digits(d, 2)
				u := time.Date(year, time.Month(month), d, 0, 0, 0, 0, time.UTC)
				want, code, at := day(year, month, d), api.OK, 0
				switch {
				case year == 0:
					want, code, at = api.Date{}, api.ErrValueRange, 0
				case month < 1 || month > 12:
					want, code, at = api.Date{}, api.ErrValueRange, 4
				case u.Day() != d || int(u.Month()) != month:
					want, code, at = api.Date{}, api.ErrValueRange, 6
				}
				got, err := value.ParseDate(text)
				if got != want || !is(err, code, at) {
					t.Fatalf("P5.1: ParseDate(%q): %v, %v; want %v, %d at %d", text, got, err, want, code, at)
				}
				if back, err := value.PrintDate(day(year, month, d)); (code == api.OK) != (err == nil) || err == nil && back != text {
					t.Fatalf("P5.1, P5.14: PrintDate(%v): %q, %v", day(year, month, d), back, err)
				}
			}
		}
	}
}

func digits(n, width int) string {
	text := ""
	for range width {
		text = string(rune('0'+n%10)) + text
		n /= 10
	}
	return text
}

func TestPrintDate(t *testing.T) {
	list := []printing[api.Date]{
		{data: day(2024, 2, 29), want: "20240229"},
		{data: day(1, 1, 1), want: "00010101"},
		{data: day(45, 11, 30), want: "00451130"},
		{data: day(9999, 12, 31), want: "99991231"},
		{data: api.Date{}, code: api.ErrValueField, at: 0},
		{data: day(0, 1, 1), code: api.ErrValueField, at: 0},
		{data: day(-4, 2, 28), code: api.ErrValueField, at: 0},
		{data: day(10000, 1, 1), code: api.ErrValueField, at: 0},
		{data: day(math.MaxInt, 13, 99), code: api.ErrValueField, at: 0},
		{data: day(math.MinInt, math.MinInt, math.MinInt), code: api.ErrValueField, at: 0},
		{data: day(2024, 0, 1), code: api.ErrValueField, at: 1},
		{data: day(2024, 13, 1), code: api.ErrValueField, at: 1},
		{data: day(2024, -1, 32), code: api.ErrValueField, at: 1},
		{data: day(2024, math.MaxInt, 0), code: api.ErrValueField, at: 1},
		{data: day(2024, 2, 0), code: api.ErrValueField, at: 2},
		{data: day(2024, 2, -1), code: api.ErrValueField, at: 2},
		{data: day(2024, 2, 30), code: api.ErrValueField, at: 2},
		{data: day(2023, 2, 29), code: api.ErrValueField, at: 2},
		{data: day(1900, 2, 29), code: api.ErrValueField, at: 2},
		{data: day(2024, 11, 31), code: api.ErrValueField, at: 2},
		{data: day(2024, 12, math.MaxInt), code: api.ErrValueField, at: 2},
	}
	wantPrinted(t, "P5.1: PrintDate", value.PrintDate, list)
	for _, c := range list {
		if n, err := value.DateNumber(c.data); !is(err, c.code, c.at) || err != nil && n != 0 {
			t.Errorf("P5.1: DateNumber(%v): %d, %v; want %d at %d", c.data, n, err, c.code, c.at)
		}
	}
}

func TestDateOfBounds(t *testing.T) {
	for _, n := range []int64{-1, -366, math.MinInt64, api.MaxDateNo + 1, math.MaxInt32, math.MaxInt64} {
		if d, err := value.DateOf(n); d != (api.Date{}) || !is(err, api.ErrValueRange, 0) {
			t.Errorf("P5.1: DateOf(%d): %v, %v", n, d, err)
		}
	}
}
