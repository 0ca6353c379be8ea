package value_test

import (
	"math"
	"math/rand"
	"strconv"
	"strings"
	"testing"

	"modality/api"
	"modality/value"
)

func clock(hour, minute, second, micro, parts int) api.Time {
	return api.Time{Hour: hour, Minute: minute, Second: second, Micro: micro, Parts: parts}
}

func TestParseTime(t *testing.T) {
	wantRead(t, "P5.2: ParseTime", value.ParseTime, []reading[api.Time]{
		{text: "00", want: clock(0, 0, 0, 0, 1)},
		{text: "10", want: clock(10, 0, 0, 0, 1)},
		{text: "23", want: clock(23, 0, 0, 0, 1)},
		{text: "1030", want: clock(10, 30, 0, 0, 2)},
		{text: "2359", want: clock(23, 59, 0, 0, 2)},
		{text: "103045", want: clock(10, 30, 45, 0, 3)},
		{text: "000060", want: clock(0, 0, 60, 0, 3)},
		{text: "103060.25", want: clock(10, 30, 60, 250000, 5)},
		{text: "103045.0", want: clock(10, 30, 45, 0, 4)},
		{text: "103045.1", want: clock(10, 30, 45, 100000, 4)},
		{text: "103045.01", want: clock(10, 30, 45, 10000, 5)},
		{text: "103045.123", want: clock(10, 30, 45, 123000, 6)},
		{text: "103045.1234", want: clock(10, 30, 45, 123400, 7)},
		{text: "103045.12345", want: clock(10, 30, 45, 123450, 8)},
		{text: "103045.999999", want: clock(10, 30, 45, 999999, 9)},
		{text: "235960.999999", want: clock(23, 59, 60, 999999, 9)},
		{text: "24", code: api.ErrValueRange, at: 0},
		{text: "99", code: api.ErrValueRange, at: 0},
		{text: "2460", code: api.ErrValueRange, at: 0},
		{text: "1060", code: api.ErrValueRange, at: 2},
		{text: "106061", code: api.ErrValueRange, at: 2},
		{text: "100061", code: api.ErrValueRange, at: 4},
		{text: "100099.5", code: api.ErrValueRange, at: 4},
		{text: "", code: api.ErrValueForm, at: 0},
		{text: "1", code: api.ErrValueForm, at: 1},
		{text: "103", code: api.ErrValueForm, at: 3},
		{text: "10306", code: api.ErrValueForm, at: 5},
		{text: "1030600", code: api.ErrValueForm, at: 6},
		{text: "10.5", code: api.ErrValueForm, at: 2},
		{text: "1030.5", code: api.ErrValueForm, at: 4},
		{text: "10304.5", code: api.ErrValueForm, at: 5},
		{text: "103000.", code: api.ErrValueForm, at: 7},
		{text: "103000.x", code: api.ErrValueForm, at: 7},
		{text: "103000..5", code: api.ErrValueForm, at: 7},
		{text: "103000.5.", code: api.ErrValueForm, at: 8},
		{text: "103000,5", code: api.ErrValueForm, at: 6},
		{text: "103000.1234567", code: api.ErrValueForm, at: 13},
		{text: "10:30", code: api.ErrValueForm, at: 2},
		{text: "10+0100", code: api.ErrValueForm, at: 2},
		{text: "10-", code: api.ErrValueForm, at: 2},
		{text: "-10", code: api.ErrValueForm, at: 0},
		{text: ".5", code: api.ErrValueForm, at: 0},
		{text: "10 ", code: api.ErrValueForm, at: 2},
		{text: "10\x00", code: api.ErrValueForm, at: 2},
		{text: "24x", code: api.ErrValueForm, at: 2},
		{text: "246", code: api.ErrValueForm, at: 3},
		{text: "246099.", code: api.ErrValueForm, at: 7},
		{text: strings.Repeat("1", 1<<20), code: api.ErrValueForm, at: 6},
	})
}

// TestTimeTexts: texts of the form and such as nearly are, against all the shapes there are.
func TestTimeTexts(t *testing.T) {
	r := rand.New(rand.NewSource(2))
	for range 300000 {
		shape := timeShapes[r.Intn(len(timeShapes))]
		text := []byte(shape)
		for i := range text {
			if text[i] == 'd' {
				text[i] = "0123456789"[r.Intn(10)]
			}
			if text[i] > '2' && i < 6 && i%2 == 0 && r.Intn(4) > 0 {
				text[i] = '0' + byte(r.Intn(3))
			}
		}
		s := spoiled(r, string(text), "0129.+- x")
		want, code, at := timeOf(s, 0)
		if got, err := value.ParseTime(s); got != want || !is(err, code, at) {
			t.Fatalf("P5.2: ParseTime(%q): %v, %v; want %v, %d at %d", s, got, err, want, code, at)
		}
	}
}

// timeOf reads a time by its shape and its digits' places; the places are told from this one on.
func timeOf(s string, from int) (api.Time, api.Errno, int) {
	if at := formEnds(s, timeShapes); at >= 0 {
		return api.Time{}, api.ErrValueForm, from + at
	}
	number := func(text string) int { n, _ := strconv.Atoi(text); return n }
	full := s + "000000"[:max(0, 6-len(s))]
	x := clock(number(full[:2]), number(full[2:4]), number(full[4:6]), 0, min(len(s)/2, 3))
	if len(s) > 6 {
		x.Parts = len(s) - 4
		x.Micro = number((s[7:] + "00000")[:6])
	}
	switch {
	case x.Hour > 23:
		return api.Time{}, api.ErrValueRange, from
	case x.Minute > 59:
		return api.Time{}, api.ErrValueRange, from + 2
	case x.Second > 60:
		return api.Time{}, api.ErrValueRange, from + 4
	}
	return x, api.OK, 0
}

func TestPrintTime(t *testing.T) {
	wantPrinted(t, "P5.2: PrintTime", value.PrintTime, []printing[api.Time]{
		{data: clock(0, 0, 0, 0, 1), want: "00"},
		{data: clock(9, 0, 0, 0, 1), want: "09"},
		{data: clock(23, 5, 0, 0, 2), want: "2305"},
		{data: clock(23, 59, 60, 0, 3), want: "235960"},
		{data: clock(23, 59, 60, 0, 4), want: "235960.0"},
		{data: clock(1, 2, 3, 500000, 4), want: "010203.5"},
		{data: clock(1, 2, 3, 20000, 5), want: "010203.02"},
		{data: clock(1, 2, 3, 123000, 6), want: "010203.123"},
		{data: clock(1, 2, 3, 123400, 7), want: "010203.1234"},
		{data: clock(1, 2, 3, 123450, 8), want: "010203.12345"},
		{data: clock(1, 2, 3, 1, 9), want: "010203.000001"},
		{data: clock(1, 2, 3, 999999, 9), want: "010203.999999"},
		{data: clock(-1, 0, 0, 0, 1), code: api.ErrValueField, at: 0},
		{data: clock(24, 60, 61, -1, 0), code: api.ErrValueField, at: 0},
		{data: clock(math.MaxInt, 0, 0, 0, 1), code: api.ErrValueField, at: 0},
		{data: clock(23, -1, 0, 0, 2), code: api.ErrValueField, at: 1},
		{data: clock(23, 60, 0, 0, 9), code: api.ErrValueField, at: 1},
		{data: clock(23, 60, 0, 0, 0), code: api.ErrValueField, at: 1},
		{data: clock(23, 1, 0, 0, 1), code: api.ErrValueField, at: 1},
		{data: clock(23, 0, -1, 0, 3), code: api.ErrValueField, at: 2},
		{data: clock(23, 0, 61, 0, 3), code: api.ErrValueField, at: 2},
		{data: clock(23, 0, 61, 0, -1), code: api.ErrValueField, at: 2},
		{data: clock(23, 0, 1, 0, 2), code: api.ErrValueField, at: 2},
		{data: clock(23, 0, 1, 0, 1), code: api.ErrValueField, at: 2},
		{data: clock(23, 0, 0, -1, 9), code: api.ErrValueField, at: 3},
		{data: clock(23, 0, 0, -100000, 4), code: api.ErrValueField, at: 3},
		{data: clock(23, 0, 0, 1000000, 9), code: api.ErrValueField, at: 3},
		{data: clock(23, 0, 0, 1000000, 3), code: api.ErrValueField, at: 3},
		{data: clock(23, 0, 0, 61000000, 2), code: api.ErrValueField, at: 3},
		{data: clock(23, 0, 0, 1000000, 10), code: api.ErrValueField, at: 3},
		{data: clock(23, 0, 0, 100000, 3), code: api.ErrValueField, at: 3},
		{data: clock(23, 0, 0, 500000, 1), code: api.ErrValueField, at: 3},
		{data: clock(23, 0, 0, 500000, 2), code: api.ErrValueField, at: 3},
		{data: clock(23, 0, 0, 510000, 4), code: api.ErrValueField, at: 3},
		{data: clock(23, 0, 0, 501000, 5), code: api.ErrValueField, at: 3},
		{data: clock(23, 0, 0, 500100, 6), code: api.ErrValueField, at: 3},
		{data: clock(23, 0, 0, 500010, 7), code: api.ErrValueField, at: 3},
		{data: clock(23, 0, 0, 500001, 8), code: api.ErrValueField, at: 3},
		{data: api.Time{}, code: api.ErrValueField, at: 4},
		{data: clock(23, 59, 60, 999999, 0), code: api.ErrValueField, at: 4},
		{data: clock(23, 59, 60, 999999, 10), code: api.ErrValueField, at: 4},
		{data: clock(23, 0, 0, 0, -1), code: api.ErrValueField, at: 4},
		{data: clock(23, 0, 0, 0, math.MaxInt), code: api.ErrValueField, at: 4},
		{data: clock(23, 0, 0, 0, math.MinInt), code: api.ErrValueField, at: 4},
	})
}

// TestTimeFields: times about the bounds of each field are written just if some text is read as them.
func TestTimeFields(t *testing.T) {
	for parts := -1; parts <= 11; parts++ {
		for _, hour := range []int{-1, 0, 7, 23, 24} {
			for _, minute := range []int{-1, 0, 1, 59, 60} {
				for _, second := range []int{-1, 0, 1, 60, 61} {
					for _, micro := range []int{-1, 0, 1, 10, 200, 3000, 40000, 500000, 543210, 999999, 1000000} {
						x := clock(hour, minute, second, micro, parts)
						text, err := value.PrintTime(x)
						back, unread := value.ParseTime(text)
						if err == nil && (back != x || unread != nil) {
							t.Fatalf("P5.14: %v is written as %q, and that is read as %v, %v", x, text, back, unread)
						}
						if at := timeField(x); (at >= 0) != (err != nil) || err != nil && (text != "" || !is(err, api.ErrValueField, at)) {
							t.Fatalf("P5.2: PrintTime(%v): %q, %v; want a refusal at %d", x, text, err, at)
						}
					}
				}
			}
		}
	}
}

// timeField tells the first field that may not be, -1 if all may be, field by field as the document says it.
func timeField(x api.Time) int {
	most := []int{23, 59, 60, 999999}
	for i, n := range []int{x.Hour, x.Minute, x.Second, x.Micro} {
		if n < 0 || n > most[i] {
			return i
		}
		if x.Parts < 1 || x.Parts > 9 {
			continue
		}
		if i < 3 && x.Parts <= i && n != 0 {
			return i
		}
		if i == 3 && strings.Trim(digits(n, 6)[max(0, x.Parts-3):], "0") != "" {
			return 3
		}
	}
	if x.Parts < 1 || x.Parts > 9 {
		return 4
	}
	return -1
}
