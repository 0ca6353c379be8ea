package value_test

import (
	"math"
	"math/big"
	"math/rand"
	"regexp"
	"strconv"
	"strings"
	"testing"

	"modality/api"
	"modality/value"
)

func TestParseWhole(t *testing.T) {
	wantRead(t, "P5.7: ParseWhole", value.ParseWhole, []reading[int64]{
		{text: "0", want: 0},
		{text: "-0", want: 0},
		{text: "+0", want: 0},
		{text: "7", want: 7},
		{text: "007", want: 7},
		{text: "+42", want: 42},
		{text: "-42", want: -42},
		{text: "000000000012", want: 12},
		{text: "-00000000012", want: -12},
		{text: "2147483647", want: math.MaxInt32},
		{text: "+02147483647", want: math.MaxInt32},
		{text: "-2147483648", want: math.MinInt32},
		{text: "-02147483648", want: math.MinInt32},
		{text: "2147483648", code: api.ErrValueRange, at: 0},
		{text: "+2147483648", code: api.ErrValueRange, at: 0},
		{text: "-2147483649", code: api.ErrValueRange, at: 0},
		{text: "4294967296", code: api.ErrValueRange, at: 0},
		{text: "999999999999", code: api.ErrValueRange, at: 0},
		{text: "-99999999999", code: api.ErrValueRange, at: 0},
		{text: "", code: api.ErrValueForm, at: 0},
		{text: "-", code: api.ErrValueForm, at: 1},
		{text: "+", code: api.ErrValueForm, at: 1},
		{text: "--1", code: api.ErrValueForm, at: 1},
		{text: "+-1", code: api.ErrValueForm, at: 1},
		{text: "1-", code: api.ErrValueForm, at: 1},
		{text: "1.0", code: api.ErrValueForm, at: 1},
		{text: "1e3", code: api.ErrValueForm, at: 1},
		{text: "1_000", code: api.ErrValueForm, at: 1},
		{text: "0x10", code: api.ErrValueForm, at: 1},
		{text: " 1", code: api.ErrValueForm, at: 0},
		{text: "1 ", code: api.ErrValueForm, at: 1},
		{text: "1\x00", code: api.ErrValueForm, at: 1},
		{text: "\u0661", code: api.ErrValueForm, at: 0},
		{text: "99999999999x", code: api.ErrValueForm, at: 11},
		{text: "0000000000001", code: api.ErrValueLong, at: 12},
		{text: "xxxxxxxxxxxxx", code: api.ErrValueLong, at: 12},
		{text: "9999999999999", code: api.ErrValueLong, at: 12},
		{text: strings.Repeat("0", 1<<20), code: api.ErrValueLong, at: 12},
	})
}

func TestPrintWhole(t *testing.T) {
	wantPrinted(t, "P5.7: PrintWhole", value.PrintWhole, []printing[int64]{
		{data: 0, want: "0"},
		{data: 7, want: "7"},
		{data: -7, want: "-7"},
		{data: 100, want: "100"},
		{data: math.MaxInt32, want: "2147483647"},
		{data: math.MinInt32, want: "-2147483648"},
		{data: math.MaxInt32 + 1, code: api.ErrValueRange, at: 0},
		{data: math.MinInt32 - 1, code: api.ErrValueRange, at: 0},
		{data: 1 << 32, code: api.ErrValueRange, at: 0},
		{data: math.MaxInt64, code: api.ErrValueRange, at: 0},
		{data: math.MinInt64, code: api.ErrValueRange, at: 0},
	})
	for n := int64(math.MinInt32); n <= math.MaxInt32; n += 9973 {
		text, err := value.PrintWhole(n)
		back, unread := value.ParseWhole(text)
		if err != nil || unread != nil || back != n || text != strconv.FormatInt(n, 10) {
			t.Fatalf("P5.7, P5.14: %d is written as %q, %v, and that is read as %d, %v", n, text, err, back, unread)
		}
	}
}

var (
	wholeForm   = regexp.MustCompile(`^[+-]?[0-9]+$`)
	wholeHead   = regexp.MustCompile(`^[+-]?[0-9]*$`)
	decimalForm = regexp.MustCompile(`^[+-]?([0-9]+\.?[0-9]*|\.[0-9]+)([Ee][+-]?[0-9]+)?$`)
	decimalHead = regexp.MustCompile(`^[+-]?([0-9]*|[0-9]*\.[0-9]*|([0-9]+\.?[0-9]*|\.[0-9]+)[Ee][+-]?[0-9]*)$`)
)

// endOfForm tells the first place behind which the text is the beginning of none of a form; -1, if it is of the form.
func endOfForm(s string, whole, head *regexp.Regexp) int {
	if whole.MatchString(s) {
		return -1
	}
	for i := range len(s) {
		if !head.MatchString(s[:i+1]) {
			return i
		}
	}
	return len(s)
}

func TestWholeTexts(t *testing.T) {
	r := rand.New(rand.NewSource(9))
	texts := allTexts(5, "+", "-", "0", "9", ".")
	for range 50000 {
		texts = append(texts, spoiled(r, someText(r, 1, "+", "-")+someText(r, 13, "0", "1", "2", "9"), "0+-. "))
		texts = append(texts, someText(r, 1, "-")+strconv.Itoa(math.MaxInt32-4+r.Intn(9)))
	}
	for _, s := range texts {
		var want int64
		code, at := api.OK, 0
		if end := endOfForm(s, wholeForm, wholeHead); len(s) > 12 {
			code, at = api.ErrValueLong, 12
		} else if end >= 0 {
			code, at = api.ErrValueForm, end
		} else if n, err := strconv.ParseInt(s, 10, 32); err != nil {
			code = api.ErrValueRange
		} else {
			want = n
		}
		if got, err := value.ParseWhole(s); got != want || !is(err, code, at) {
			t.Fatalf("P5.7: ParseWhole(%q): %d, %v; want %d, %d at %d", s, got, err, want, code, at)
		}
	}
}

func number(neg bool, digits uint64, exp int64) api.Number {
	return api.Number{Neg: neg, Digits: digits, Exp: exp}
}

func TestParseNumber(t *testing.T) {
	wantRead(t, "P5.8: ParseNumber", value.ParseNumber, []reading[api.Number]{
		{text: "0"},
		{text: "-0.0"},
		{text: "+0"},
		{text: "0E99999"},
		{text: "-.0e-5"},
		{text: "1", want: number(false, 1, 0)},
		{text: "-1.50e+2", want: number(true, 15, 1)},
		{text: "0.050", want: number(false, 5, -2)},
		{text: "1E5", want: number(false, 1, 5)},
		{text: "1e5", want: number(false, 1, 5)},
		{text: "1E-5", want: number(false, 1, -5)},
		{text: "+.5", want: number(false, 5, -1)},
		{text: "5.", want: number(false, 5, 0)},
		{text: "5.E1", want: number(false, 5, 1)},
		{text: "-100", want: number(true, 1, 2)},
		{text: "10.010", want: number(false, 1001, -2)},
		{text: "0000000000000001", want: number(false, 1, 0)},
		{text: "9999999999999999", want: number(false, 9999999999999999, 0)},
		{text: ".999999999999999", want: number(false, 999999999999999, -15)},
		{text: ".202610220262359", want: number(false, 202610220262359, -15)},
		{text: "1E99999999999999", want: number(false, 1, 99999999999999)},
		{text: "1E-9999999999999", want: number(false, 1, -9999999999999)},
		{text: "10E-999999999999", want: number(false, 1, -999999999998)},
		{text: "0.1E-99999999999", want: number(false, 1, -100000000000)},
		{text: "", code: api.ErrValueForm, at: 0},
		{text: "+", code: api.ErrValueForm, at: 1},
		{text: ".", code: api.ErrValueForm, at: 1},
		{text: "-.", code: api.ErrValueForm, at: 2},
		{text: ".E5", code: api.ErrValueForm, at: 1},
		{text: "E5", code: api.ErrValueForm, at: 0},
		{text: "-E5", code: api.ErrValueForm, at: 1},
		{text: "1e", code: api.ErrValueForm, at: 2},
		{text: "1e+", code: api.ErrValueForm, at: 3},
		{text: "1e+-5", code: api.ErrValueForm, at: 3},
		{text: "1e5.", code: api.ErrValueForm, at: 3},
		{text: "1e5e5", code: api.ErrValueForm, at: 3},
		{text: "1..5", code: api.ErrValueForm, at: 2},
		{text: "1.5.5", code: api.ErrValueForm, at: 3},
		{text: "--1", code: api.ErrValueForm, at: 1},
		{text: "1-", code: api.ErrValueForm, at: 1},
		{text: "1,5", code: api.ErrValueForm, at: 1},
		{text: "1 ", code: api.ErrValueForm, at: 1},
		{text: " 1", code: api.ErrValueForm, at: 0},
		{text: "1\x00", code: api.ErrValueForm, at: 1},
		{text: "NaN", code: api.ErrValueForm, at: 0},
		{text: "0x1", code: api.ErrValueForm, at: 1},
		{text: "00000000000000001", code: api.ErrValueLong, at: 16},
		{text: "xxxxxxxxxxxxxxxxx", code: api.ErrValueLong, at: 16},
		{text: strings.Repeat("9", 1<<20), code: api.ErrValueLong, at: 16},
	})
}

// sizeOf gives a number's exact value; its exponent must be small.
func sizeOf(d api.Number) *big.Rat {
	digits := new(big.Int).SetUint64(d.Digits)
	scale := new(big.Int).Exp(big.NewInt(10), new(big.Int).Abs(big.NewInt(d.Exp)), nil)
	size := new(big.Rat).SetInt(digits)
	if d.Exp < 0 {
		size.Quo(size, new(big.Rat).SetInt(scale))
	} else {
		size.Mul(size, new(big.Rat).SetInt(scale))
	}
	if d.Neg {
		size.Neg(size)
	}
	return size
}

// isOneForm tells whether a number is in the form that is told.
func isOneForm(d api.Number) bool {
	if d.Digits == 0 {
		return d == api.Number{}
	}
	return d.Digits%10 != 0
}

// isNumber tells whether a number is that of a text; both are taken without the exponent that the text says, which may be huge.
func isNumber(d api.Number, text string) bool {
	digits, power, _ := strings.Cut(strings.ToLower(text), "e")
	exp, _ := strconv.ParseInt(power, 10, 64)
	if d.Digits != 0 {
		d.Exp -= exp
	}
	want, ok := new(big.Rat).SetString(digits)
	return ok && d.Exp > -100 && d.Exp < 100 && sizeOf(d).Cmp(want) == 0
}

func TestNumberTexts(t *testing.T) {
	r := rand.New(rand.NewSource(10))
	texts := allTexts(6, "+", "0", "5", ".", "E")
	for range 100000 {
		text := someText(r, 1, "+", "-") + someText(r, 8, "0", "1", "9") + someText(r, 1, ".") + someText(r, 8, "0", "1", "9")
		if r.Intn(2) == 0 {
			text += someText(r, 1, "E", "e") + someText(r, 1, "+", "-") + someText(r, 3, "0", "1", "2")
		}
		texts = append(texts, text, spoiled(r, text, "05.eE+- "))
	}
	read, refused := 0, 0
	for _, s := range texts {
		code, at := api.OK, 0
		if end := endOfForm(s, decimalForm, decimalHead); len(s) > 16 {
			code, at = api.ErrValueLong, 16
		} else if end >= 0 {
			code, at = api.ErrValueForm, end
		}
		got, err := value.ParseNumber(s)
		if !is(err, code, at) || err != nil && got != (api.Number{}) {
			t.Fatalf("P5.8: ParseNumber(%q): %v, %v; want %d at %d", s, got, err, code, at)
		}
		if err != nil {
			continue
		}
		read++
		if !isOneForm(got) || !isNumber(got, s) {
			t.Fatalf("P5.8: ParseNumber(%q): %v", s, got)
		}
		text, err := value.PrintNumber(got)
		if is(err, api.ErrValueLong, 0) && text == "" {
			refused++
			continue
		}
		if back, unread := value.ParseNumber(text); err != nil || unread != nil || back != got {
			t.Fatalf("P5.14: %q is read as %v, written as %q, %v, and that is read as %v, %v", s, got, text, err, back, unread)
		}
	}
	if read < 50000 || refused > read/10 {
		t.Errorf("%d of the texts were numbers, %d of them can't be written", read, refused)
	}
}

func TestPrintNumber(t *testing.T) {
	wantPrinted(t, "P5.8: PrintNumber", value.PrintNumber, []printing[api.Number]{
		{data: api.Number{}, want: "0"},
		{data: number(true, 15, 1), want: "-150"},
		{data: number(false, 5, -2), want: "0.05"},
		{data: number(false, 5, -3), want: "5E-3"},
		{data: number(false, 1, 5), want: "1E5"},
		{data: number(false, 12, 2), want: "1200"},
		{data: number(false, 12, 3), want: "12E3"},
		{data: number(false, 1, 1), want: "10"},
		{data: number(false, 1, 2), want: "100"},
		{data: number(false, 1, 3), want: "1E3"},
		{data: number(false, 15, -1), want: "1.5"},
		{data: number(true, 15, -2), want: "-0.15"},
		{data: number(false, 15, -3), want: "0.015"},
		{data: number(false, 15, -4), want: "15E-4"},
		{data: number(false, 5, -1), want: "0.5"},
		{data: number(false, 123456789, -9), want: "0.123456789"},
		{data: number(false, 123456789, -10), want: "0.0123456789"},
		{data: number(false, 123456789, -11), want: "0.00123456789"},
		{data: number(false, 123456789, -12), want: "123456789E-12"},
		{data: number(false, 9999999999999999, 0), want: "9999999999999999"},
		{data: number(true, 999999999999999, 0), want: "-999999999999999"},
		{data: number(false, 123456789012345, -1), want: "12345678901234.5"},
		{data: number(false, 12345678901234, -14), want: "0.12345678901234"},
		{data: number(false, 1, 99999999999999), want: "1E99999999999999"},
		{data: number(false, 1, -9999999999999), want: "1E-9999999999999"},
		{data: number(false, 1, 17), want: "1E17"},
		{data: number(false, 1, -17), want: "1E-17"},
		{data: number(false, 12345678901234, 15), code: api.ErrValueLong, at: 0},
		{data: number(false, 1234567890123, 15), want: "1234567890123E15"},
		{data: number(true, 1234567890123, 15), code: api.ErrValueLong, at: 0},
		{data: number(false, 202610220262359, -15), code: api.ErrValueLong, at: 0},
		{data: number(false, 12345678901234567, 0), code: api.ErrValueLong, at: 0},
		{data: number(true, 9999999999999999, 0), code: api.ErrValueLong, at: 0},
		{data: number(false, 1, 100000000000000), want: "", code: api.ErrValueLong, at: 0},
		{data: number(false, math.MaxUint64, 0), code: api.ErrValueLong, at: 0},
		{data: number(false, math.MaxUint64, -17), code: api.ErrValueLong, at: 0},
		{data: number(false, 1, math.MaxInt64), code: api.ErrValueLong, at: 0},
		{data: number(true, 1, math.MinInt64), code: api.ErrValueLong, at: 0},
		{data: number(false, 10, 0), code: api.ErrValueField, at: 1},
		{data: number(false, 10, -1), code: api.ErrValueField, at: 1},
		{data: number(true, 12340, math.MaxInt64), code: api.ErrValueField, at: 1},
		{data: number(false, 18446744073709551610, 0), code: api.ErrValueField, at: 1},
		{data: number(true, 0, 0), code: api.ErrValueField, at: 1},
		{data: number(false, 0, 1), code: api.ErrValueField, at: 1},
		{data: number(false, 0, -1), code: api.ErrValueField, at: 1},
	})
}

// TestShortest: numbers of every length and exponent about the bounds are written as the shorter of their two texts.
func TestShortest(t *testing.T) {
	r := rand.New(rand.NewSource(11))
	for exp := int64(-25); exp <= 25; exp++ {
		for length := 1; length <= 19; length++ {
			for range 20 {
				text := digits(1+r.Intn(9), 1)
				for len(text) < length {
					text += digits(r.Intn(10), 1)
				}
				if text[len(text)-1] == '0' {
					text = text[:len(text)-1] + "7"
				}
				n, _ := strconv.ParseUint(text, 10, 64)
				d := number(r.Intn(2) == 0, n, exp)
				plain := sizeOf(d).FloatString(int(max(0, -exp)))
				short := strings.Repeat("-", map[bool]int{true: 1}[d.Neg]) + text + "E" + strconv.FormatInt(exp, 10)
				if len(plain) <= len(short) {
					short = plain
				}
				code := api.OK
				if len(short) > 16 {
					short, code = "", api.ErrValueLong
				}
				got, err := value.PrintNumber(d)
				if got != short || !is(err, code, 0) {
					t.Fatalf("P5.8: PrintNumber(%v): %q, %v; want %q, %d", d, got, err, short, code)
				}
				if back, unread := value.ParseNumber(got); err == nil && (back != d || unread != nil) {
					t.Fatalf("P5.14: %v is written as %q, and that is read as %v, %v", d, got, back, unread)
				}
			}
		}
	}
}

func TestCompareNumber(t *testing.T) {
	// Each list stands below the next; what is in one list is the same.
	rising := [][]api.Number{
		{number(true, math.MaxUint64, math.MaxInt64)},
		{number(true, 1, math.MaxInt64)},
		{number(true, math.MaxUint64, math.MaxInt64-20)},
		{number(true, 1, 19), number(true, 10_000_000_000_000_000_000, 0)},
		{number(true, 15, 1), number(true, 150, 0), number(true, 15000, -2)},
		{number(true, 2, math.MinInt64)},
		{number(true, 1, math.MinInt64)},
		{number(false, 0, 0), number(true, 0, 0), number(false, 0, math.MaxInt64), number(true, 0, math.MinInt64)},
		{number(false, 1, math.MinInt64)},
		{number(false, 10, math.MinInt64), number(false, 1, math.MinInt64+1)},
		{number(false, math.MaxUint64, math.MinInt64)},
		{number(false, 1, math.MinInt64+20)},
		{number(false, 9, -1), number(false, 90, -2)},
		{number(false, 1, 0), number(false, 10, -1), number(false, 10_000_000_000_000_000_000, -19)},
		{number(false, 10, 0), number(false, 1, 1)},
		{number(false, math.MaxUint64, 0)},
		{number(false, 2, 19), number(false, 20, 18)},
		{number(false, 1, 20)},
		{number(false, math.MaxUint64, math.MaxInt64-20)},
		{number(false, 1, math.MaxInt64)},
		{number(false, math.MaxUint64, math.MaxInt64)},
	}
	for i, list := range rising {
		for j, others := range rising {
			for _, a := range list {
				for _, b := range others {
					want := max(-1, min(i-j, 1))
					if got := value.CompareNumber(a, b); got != want {
						t.Errorf("P5.8: CompareNumber(%v, %v): %d; want %d", a, b, got, want)
					}
				}
			}
		}
	}
}

// TestCompareSizes: pairs that lie close to each other, against exact arithmetic.
func TestCompareSizes(t *testing.T) {
	r := rand.New(rand.NewSource(12))
	for range 100000 {
		a := number(r.Intn(2) == 0, r.Uint64()>>r.Intn(64), int64(r.Intn(50)-25))
		b := number(r.Intn(2) == 0, r.Uint64()>>r.Intn(64), int64(r.Intn(50)-25))
		if r.Intn(2) == 0 { // the same size, or nearly so
			b = a
			for range r.Intn(20) {
				if b.Digits < math.MaxUint64/10 {
					b.Digits, b.Exp = 10*b.Digits, b.Exp-1
				}
			}
			b.Digits += uint64(r.Intn(2))
		}
		if got, want := value.CompareNumber(a, b), sizeOf(a).Cmp(sizeOf(b)); got != want {
			t.Fatalf("P5.8: CompareNumber(%v, %v): %d; want %d", a, b, got, want)
		}
		far := int64(1) << 60
		a.Exp, b.Exp = a.Exp+far, b.Exp+far
		c := value.CompareNumber(a, b)
		a.Exp, b.Exp = a.Exp-2*far, b.Exp-2*far
		if d := value.CompareNumber(a, b); c != d {
			t.Fatalf("P5.8: CompareNumber(%v, %v): %d; but %d further up", a, b, d, c)
		}
	}
}
